/- Part 4 of what the proof leans on: IBackQ, IBuild, IEnc1, IEnc3, IDec8, GRun, IRun, IDec9, IDec10, IBeg, ZPl, ZCat, ShelfZ, ZSrt, ZTog. -/
import Derived.Test.YtcidoodaiimhfaaGreatPart3
import Derived.Test.YtcidoodaiimhfaaGreatPart1
import Derived.Test.YtcidoodaiimhfaaGreatChecked
import Derived.Lib.Builder
import Derived.Lib.AppendStr
import Derived.Laws.Externs
import Derived.Shelf.RegionOpenPlain
import Derived.Lib.UnsafeStr
import Derived.Deep.RegionHeld3
import Derived.Handy
import Derived.Defers
import Derived.Recover
import Derived.Test.YtcidoodaiimhfaaGreatPart2
import Derived.Sort.KeysCollected
import Derived.Sort.MapsRangeIn
import Derived.Maps.OwnIn
import Derived.RangeFuncMany
import Derived.RangeFuncLeaves
import Derived.RangeFuncKeeps
import Derived.WalkKit
import Derived.OwnWalkIn
import Derived.TacticsInMore
import Derived.RegionIn
import Derived.LoopNIn
import Derived.LoopIn
import Derived.Shelf.Abstract
import Derived.Shelf.AbstractIn
import Derived.RangeFuncNested
import Derived.RangeFuncBound
import Derived.RangeFuncCalls
import Derived.RangeFuncBox
import Derived.Maps.AppendAt
import Derived.Shelf.RegionOpen
import Derived.Lib.AppendZeros
import Derived.Laws.OwnMore
import Derived.Shelf.SlGeneric
import Derived.Shelf.SlSortCmp.WholeK
import Derived.Shelf.SlicesQ.IndexFunc
import Derived.Test.YtcidoodaiimhfaaGreatProg
import Derived.BigQuiet
import Derived.Shelf.SlSortCmp.NoneTotal
import Derived.Sort.OwnSorted
/- Items and bytes, there and back: whole. -/
namespace Go.Proofs.YtcidoodaiimhfaaGreat

theorem text_empty {t : ByteArray} (h : t.toList = []) : t = ⟨#[]⟩ := by
  rw [ByteArray.toList_eq] at h
  cases t with
  | mk d =>
    congr 1
    exact Array.toList_inj.1 h
theorem other_not {x : Itm} (h : otherI x = false) : (x.k = 1 ∨ x.t = ⟨#[]⟩) ∧ ((x.k = 2 ∨ x.k = 3) ∨ x.l = []) ∧ (x.k = 4 ∨ x.p = []) ∧ (x.k = 5 ∨ x.s = []) := by
  unfold otherI at h
  rw [decide_eq_false_iff_not] at h
  refine ⟨?_, ?_, ?_, ?_⟩
  · by_cases h1 : x.k = 1
    · exact .inl h1
    · exact .inr (text_empty (Classical.byContradiction fun h2 => h (.inl ⟨h1, h2⟩)))
  · by_cases h1 : x.k = 2 ∨ x.k = 3
    · exact .inl h1
    · exact .inr (Classical.byContradiction fun h2 => h (.inr (.inl ⟨h1, List.length_pos_iff.2 h2⟩)))
  · by_cases h1 : x.k = 4
    · exact .inl h1
    · exact .inr (Classical.byContradiction fun h2 => h (.inr (.inr (.inl ⟨h1, List.length_pos_iff.2 h2⟩))))
  · by_cases h1 : x.k = 5
    · exact .inl h1
    · exact .inr (Classical.byContradiction fun h2 => h (.inr (.inr (.inr ⟨h1, List.length_pos_iff.2 h2⟩))))
/-- what is encoded is decoded as it was -/
theorem item_there {x : Itm} (h : chkI x = 0) : pItem (encI x) = some x := by
  have R := right_of h
  obtain ⟨ht, hl, hp, hs⟩ := other_not R.ot
  have k1 := R.k1
  have k5 := R.k5
  have lz := R.lz
  have ln := R.ln
  have pz := R.pz
  have pn := R.pn
  have sz := R.sz
  have sr := R.sr
  have sn := R.sn
  clear R h
  obtain ⟨k, t, l, p, s⟩ := x
  simp only at *
  have hk : k = 1 ∨ k = 2 ∨ k = 3 ∨ k = 4 ∨ k = 5 := by omega
  rcases hk with rfl | rfl | rfl | rfl | rfl
  · obtain rfl := hl.resolve_left (by decide)
    obtain rfl := hp.resolve_left (by decide)
    obtain rfl := hs.resolve_left (by decide)
    show some (⟨1, ⟨t.data.toList.toArray⟩, [], [], []⟩ : Itm) = _
    rw [Array.toArray_toList]
  · obtain rfl := ht.resolve_left (by decide)
    obtain rfl := hp.resolve_left (by decide)
    obtain rfl := hs.resolve_left (by decide)
    have e := each_there (p := pText) (enc := encT) l (fun a ha r => text_there a r (by have := lz a ha; omega)) (by omega)
    have e2 : encI ⟨2, ⟨#[]⟩, l, [], []⟩ = 2 :: UInt8.ofNat l.length :: (l.map encT).flatten := by
      rw [encI, if_neg (by simp)]
      simp [manyI, bodyI]
    rw [e2, pItem, if_neg (by decide), if_pos (by decide), e]
    rfl
  · obtain rfl := ht.resolve_left (by decide)
    obtain rfl := hp.resolve_left (by decide)
    obtain rfl := hs.resolve_left (by decide)
    have e := each_there (p := pText) (enc := encT) l (fun a ha r => text_there a r (by have := lz a ha; omega)) (by omega)
    have e2 : encI ⟨3, ⟨#[]⟩, l, [], []⟩ = 3 :: UInt8.ofNat l.length :: (l.map encT).flatten := by
      rw [encI, if_neg (by simp)]
      simp [manyI, bodyI]
    rw [e2, pItem, if_neg (by decide), if_neg (by decide), if_pos (by decide), e]
    rfl
  · obtain rfl := ht.resolve_left (by decide)
    obtain rfl := hl.resolve_left (by decide)
    obtain rfl := hs.resolve_left (by decide)
    have e := each_there (p := ppair) (enc := encP) p (fun a ha r => pair_there a r (by have := pz a ha; omega)) (by omega)
    have e2 : encI ⟨4, ⟨#[]⟩, [], p, []⟩ = 4 :: UInt8.ofNat p.length :: (p.map encP).flatten := by
      rw [encI, if_neg (by simp)]
      simp [manyI, bodyI]
    rw [e2, pItem, if_neg (by decide), if_neg (by decide), if_neg (by decide), if_pos (by decide), e]
    rfl
  · obtain rfl := ht.resolve_left (by decide)
    obtain rfl := hl.resolve_left (by decide)
    obtain rfl := hp.resolve_left (by decide)
    have e := each_there (p := pscore) (enc := encS) s (fun a ha r => score_there a r (by have := sz a ha; omega) (sr a ha).1 (sr a ha).2) (by omega)
    have e2 : encI ⟨5, ⟨#[]⟩, [], [], s⟩ = 5 :: UInt8.ofNat s.length :: (s.map encS).flatten := by
      rw [encI, if_neg (by simp)]
      simp [manyI, bodyI]
    rw [e2, pItem, if_neg (by decide), if_neg (by decide), if_neg (by decide), if_neg (by decide), if_pos (by decide), e]
    rfl
theorem byte_is {c : UInt8} {n : Nat} (h : c.toNat = n) : c = UInt8.ofNat n := by
  apply UInt8.toNat_inj.1
  rw [ofNat_nat, ← h]
  have := byte_lt c
  omega
theorem map_some {α β : Type} {o : Option α} {f : α → β} {b : β} (h : o.map f = some b) : ∃ a, o = some a ∧ f a = b := by
  cases o with
  | none => cases h
  | some a => exact ⟨a, rfl, by simpa using h⟩
/-- and nothing else is -/
theorem item_back {l : List UInt8} {x : Itm} (h : pItem l = some x) : encI x = l := by
  cases l with
  | nil => cases h
  | cons c r =>
    rw [pItem] at h
    split at h
    · rename_i hc
      injection h with h
      subst h
      rw [encI, if_pos rfl, byte_is hc]
      simp
    split at h
    · rename_i hc
      obtain ⟨xs, h1, rfl⟩ := map_some h
      have hb := each_back (enc := encT) (fun _ _ _ h => text_back h) h1
      rw [encI, if_neg (by simp), byte_is hc, hb]
      simp [manyI, bodyI]
    split at h
    · rename_i hc
      obtain ⟨xs, h1, rfl⟩ := map_some h
      have hb := each_back (enc := encT) (fun _ _ _ h => text_back h) h1
      rw [encI, if_neg (by simp), byte_is hc, hb]
      simp [manyI, bodyI]
    split at h
    · rename_i hc
      obtain ⟨xs, h1, rfl⟩ := map_some h
      have hb := each_back (enc := encP) (fun _ _ _ h => pair_back h) h1
      rw [encI, if_neg (by simp), byte_is hc, hb]
      simp [manyI, bodyI]
    split at h
    · rename_i hc
      obtain ⟨xs, h1, rfl⟩ := map_some h
      have hb := each_back (enc := encS) (fun _ _ _ h => score_back h) h1
      rw [encI, if_neg (by simp), byte_is hc, hb]
      simp [manyI, bodyI]
    · cases h
end Go.Proofs.YtcidoodaiimhfaaGreat

/- WALKS of a writer: a strings.Builder within a struct. -/
namespace Go.Proofs.YtcidoodaiimhfaaGreat
open Go.RowKit

theorem sizeBuilder : (Tryz.prog.info? 135).map (·.size) = some 2 := by kernel_rfl
theorem liesBuilder : liesAt Tryz.prog Tryz.prog.depth 137 (2 / Tryz.prog.cellsOf 137) 0 135 1 = true := by kernel_rfl
theorem infoByte : (Tryz.prog.info? 5).map (fun i => (i.zero, i.size, i.bytes)) = some (some (.int .u8 0), 1, 1) := by kernel_rfl

/-- what is no row of bytes, and not the writer's own block, stays -/
def Guest (b : Nat) (w w' : World) : Prop := ∀ k O, w.heap[k]? = some O → (∀ cur fz, O ≠ .cells cur 5 fz) → k ≠ b → w'.heap[k]? = some O
theorem Guest.refl (b : Nat) (w : World) : Guest b w w := fun _ _ h _ _ => h
theorem Guest.trans {b : Nat} {w1 w2 w3 : World} (h : Guest b w1 w2) (k : Guest b w2 w3) : Guest b w1 w3 := fun i O hi hn hb => k i O (h i O hi hn hb) hn hb
theorem Guest.set {b : Nat} {w w' : World} (h : Guest b w w') (o : Nat) (u : Value) : Guest b w (w'.setCell ⟨b, o, none⟩ u) := fun i O hi hn hb => (Below.heap_setCell w' ⟨b, o, none⟩ u i (fun e => hb e)).trans (h i O hi hn hb)
theorem Guest.alloc {b : Nat} {w w' : World} (h : Guest b w w') (O : Obj) : Guest b w (w'.alloc O) := fun i P hi hn hb => by
  have h1 := h i P hi hn hb
  rw [Below.heap_alloc w' O i (Array.getElem?_eq_some_iff.1 h1).1]
  exact h1
theorem Guest.grown {b B : Nat} {w w1 w2 : World} {v : Value} {n : Nat} {xs : List Value} (h : Guest b w w1) (ho : w1.ownsRow B 5 1 v n xs) (hg : w1.grownBy w2 v.ownBlock) : Guest b w w2 := fun i O hi hn hb => by
  have h1 := h i O hi hn hb
  rw [hg.block i (Array.getElem?_eq_some_iff.1 h1).1 ?_]
  · exact h1
  · intro e
    rcases ho.2 with ⟨hv, _⟩ | ⟨g, cap, cur, hv, _, hgg, _⟩
    · rw [hv] at e; simp [Value.ownBlock] at e
    · rw [hv] at e
      simp only [Value.ownBlock, Option.some.injEq] at e
      rw [e, hgg] at h1
      injection h1 with h1
      exact hn _ _ h1.symm

set_option maxHeartbeats 1000000 in
set_option maxRecDepth 100000 in
theorem copyCheck_used (b : Nat) (w : World) (h0 : w.cell? ⟨b, 0, none⟩ = some (.pointer (some ⟨b, 0, none⟩))) :
    Calls Tryz.prog 171 #[.pointer (some ⟨b, 0, none⟩)] w fun e w' => e = .returned (.tuple #[]) ∧ w' = w := by
  obtain ⟨j, hj, _⟩ := Option.map_eq_some_iff.1 sizeBuilder
  go_enter Tryz.func171, Tryz.ntmps171
  go_wp2
  rw [Lib.run_neq_ptr_same w _ Tryz.underlying132 hj]
  go_wp2
  go_end0
  exact ⟨rfl, rfl⟩

set_option maxHeartbeats 1000000 in
set_option maxRecDepth 100000 in
theorem copyCheck_fresh (b : Nat) (w : World) (h0 : w.cell? ⟨b, 0, none⟩ = some (.pointer none)) (hsh : w.shape? b = some (137, 2)) (hfz : w.frozen? ⟨b, 0, none⟩ = false) :
    Calls Tryz.prog 171 #[.pointer (some ⟨b, 0, none⟩)] w fun e w' => e = .returned (.tuple #[]) ∧ w' = w.setCell ⟨b, 0, none⟩ (.pointer (some ⟨b, 0, none⟩)) := by
  obtain ⟨j, hj, hjs⟩ := Option.map_eq_some_iff.1 sizeBuilder
  go_enter Tryz.func171, Tryz.ntmps171
  go_wp2
  rw [Lib.run_to_unsafe w ⟨b, 0, none⟩ Tryz.underlying132 Tryz.underlying242 hj (by rw [hjs]; decide) hsh (Nat.zero_lt_succ 1)]
  simp only [Result.andThen]
  rw [Oper.upon_value]
  go_wp2
  rw [run_callFunc_extern Tryz.func225 (by kernel_rfl) (by kernel_rfl) (by kernel_rfl) (e := Extern.AbiNoEscape.same) (by kernel_rfl)]
  rw [Lib.run_noEscape]
  simp only [Result.andThen]
  rw [Oper.upon_value]
  go_wp2
  rw [Lib.run_from_unsafe w ⟨b, 0, none⟩ Tryz.underlying242 Tryz.underlying132 hj hsh liesBuilder]
  simp only [Result.andThen]
  rw [Oper.upon_value]
  go_wp2
  go_end0
  exact ⟨rfl, rfl⟩

theorem copyCheck_any (B b : Nat) (bs : List Value) (w : World) (h : Lib.IsBuilder 137 5 B b bs w) :
    Calls Tryz.prog 171 #[.pointer (some ⟨b, 0, none⟩)] w fun e w' => e = .returned (.tuple #[]) ∧ (Lib.BuilderAt 137 5 B b (.pointer (some ⟨b, 0, none⟩)) bs w' ∧ Below B w w' ∧ Guest b w w') := by
  rcases h with h | h
  · refine (copyCheck_fresh b w h.cell0 h.shape h.frozen0).mono ?_
    rintro e w' ⟨rfl, rfl⟩
    exact ⟨rfl, h.used _, (Below.refl B w).setCell (p := ⟨b, 0, none⟩) h.1 _, (Guest.refl b w).set 0 _⟩
  · refine (copyCheck_used b w h.cell0).mono ?_
    rintro e w' ⟨rfl, rfl⟩
    exact ⟨rfl, h, Below.refl B _, Guest.refl b _⟩

set_option maxHeartbeats 2000000 in
set_option maxRecDepth 100000 in
theorem writeString_any (B b : Nat) (bs : List Value) (s : ByteArray) (w : World) (h : Lib.IsBuilder 137 5 B b bs w) (hlen : bs.length + s.size ≤ 140737488355328) (hBw : B ≤ w.heap.size) :
    Calls Tryz.prog 121 #[.pointer (some ⟨b, 0, none⟩), .string s] w fun e w' => e = .returned (.tuple #[.int .i64 s.size, .nilIface]) ∧ (Lib.IsBuilder 137 5 B b (bs ++ Lib.strCells s) w' ∧ Below B w w' ∧ Guest b w w') := by
  obtain ⟨i0, hi, hz0, hz1, hz2⟩ := info_parts infoByte
  go_enter Tryz.func121, Tryz.ntmps121
  go_wp2_with (go_at_call 171; refine (copyCheck_any B b bs _ h).mono ?_)
  rintro e w1 ⟨rfl, h1, hb1, hq1⟩
  obtain ⟨hB, v, hbk, hown, hne⟩ := h1
  have c0 : w1.cell? ⟨b, 0, none⟩ = some (.pointer (some ⟨b, 0, none⟩)) := by rw [Lib.cell_of_heap hbk]; rfl
  have c1 : w1.cell? ⟨b, 1, none⟩ = some v := by rw [Lib.cell_of_heap hbk]; rfl
  go_wp2_with (at_builtin; refine Lib.wpList_append_own_string _ rfl _ _ 133 9 rfl B 5 i0 Tryz.underlying133 Tryz.underlying9 hi hz0 hz1 hz2 _ _ _ rfl hown s rfl ?c3 ?c4 ?c5 ?_)
  case c3 => unfold maxLen; omega
  case c4 => omega
  case c5 => have := hb1.size; omega
  intro v' w2 hown' hgrow _
  have hlt : b < w1.heap.size := by
    rcases Nat.lt_or_ge b w1.heap.size with h' | h'
    · exact h'
    · simp [Array.getElem?_eq_none h'] at hbk
  have hb2 : w2.heap[b]? = some (.cells #[.pointer (some ⟨b, 0, none⟩), v] 137 (0, 0)) := by
    rw [hgrow.block b hlt (fun e => hne e.symm)]
    exact hbk
  have d0 : w2.cell? ⟨b, 0, none⟩ = some (.pointer (some ⟨b, 0, none⟩)) := by rw [Lib.cell_of_heap hb2]; rfl
  have d1 : w2.cell? ⟨b, 1, none⟩ = some v := by rw [Lib.cell_of_heap hb2]; rfl
  have f1 : w2.frozen? ⟨b, 1, none⟩ = false := Lib.frozen_of_heap hb2 1
  obtain ⟨ao, n', cap, rfl⟩ : ∃ ao n' cap, v' = .slice ao n' cap := by
    rcases hown'.2 with ⟨hv, _⟩ | ⟨g, cap, cur, hv, _⟩
    · exact ⟨_, _, _, hv⟩
    · exact ⟨_, _, _, hv⟩
  go_wp2
  go_ret2
  refine ⟨rfl, .inr ?_, ?_, ?_⟩
  · exact Lib.BuilderAt.put (T := 137) (e := 5) hB hb2 (bs' := bs ++ Lib.strCells s) (by simpa [Lib.strCells_length] using hown') (by decide)
  · exact (hb1.grown hgrow (by have := hb1.size; omega) (fun k hk => (hown.lt k hk).1)).setCell (p := ⟨b, 1, none⟩) hB _
  · exact (hq1.grown hown hgrow).set 1 _
set_option maxHeartbeats 2000000 in
set_option maxRecDepth 100000 in
theorem writeByte_any (B b : Nat) (bs : List Value) (c : Int) (w : World) (h : Lib.IsBuilder 137 5 B b bs w) (hlen : bs.length + 1 ≤ 140737488355328) (hBw : B ≤ w.heap.size) :
    Calls Tryz.prog 120 #[.pointer (some ⟨b, 0, none⟩), .int .u8 c] w fun e w' => e = .returned .nilIface ∧ (Lib.IsBuilder 137 5 B b (bs ++ [.int .u8 c]) w' ∧ Below B w w' ∧ Guest b w w') := by
  obtain ⟨i0, hi, hz0, hz1, hz2⟩ := info_parts infoByte
  go_enter Tryz.func120, Tryz.ntmps120
  go_wp2_with (go_at_call 171; refine (copyCheck_any B b bs _ h).mono ?_)
  rintro e w1 ⟨rfl, h1, hb1, hq1⟩
  obtain ⟨hB, v, hbk, hown, hne⟩ := h1
  have c0 : w1.cell? ⟨b, 0, none⟩ = some (.pointer (some ⟨b, 0, none⟩)) := by rw [Lib.cell_of_heap hbk]; rfl
  have c1 : w1.cell? ⟨b, 1, none⟩ = some v := by rw [Lib.cell_of_heap hbk]; rfl
  go_wp2_with (at_builtin; refine wpList_append_own _ rfl _ _ 133 rfl B 5 i0 (.int .u8 0) 1 1 Tryz.underlying133 hi hz0 hz1 hz2 rfl (by decide) _ _ _ rfl (hown.alloc _) ⟨w1.heap.size, 0, none⟩ 1 1 [.int .u8 c] rfl rfl ?c1 ?c2 ?c3 ?c4 ?c5 ?_)
  case c1 =>
    intro j u hj
    match j, hj with
    | 0, hj => simp at hj; subst hj; simp [Addr.add]
  case c2 => intro u hu; simp at hu; subst hu; rfl
  case c3 => unfold maxLen; omega
  case c4 => omega
  case c5 => have := hb1.size; simp; omega
  intro v' w2 hown' hgrow _
  have hlt : b < w1.heap.size := by
    rcases Nat.lt_or_ge b w1.heap.size with h' | h'
    · exact h'
    · simp [Array.getElem?_eq_none h'] at hbk
  have hb2 : w2.heap[b]? = some (.cells #[.pointer (some ⟨b, 0, none⟩), v] 137 (0, 0)) := by
    rw [hgrow.block b (by simp; omega) (fun e => hne e.symm), Lib.alloc_old w1 _ b hlt]
    exact hbk
  have d0 : w2.cell? ⟨b, 0, none⟩ = some (.pointer (some ⟨b, 0, none⟩)) := by rw [Lib.cell_of_heap hb2]; rfl
  have d1 : w2.cell? ⟨b, 1, none⟩ = some v := by rw [Lib.cell_of_heap hb2]; rfl
  have f1 : w2.frozen? ⟨b, 1, none⟩ = false := Lib.frozen_of_heap hb2 1
  obtain ⟨g, cap, rfl⟩ : ∃ g cap, v' = .slice (some ⟨g, 0, none⟩) (bs.length + 1) cap := by
    rcases hown'.2 with ⟨_, h0⟩ | ⟨g, cap, cur, hv, _⟩
    · omega
    · exact ⟨g, cap, hv⟩
  go_wp2
  go_ret
  refine ⟨rfl, .inr ?_, ?_, ?_⟩
  · exact Lib.BuilderAt.put (T := 137) (e := 5) hB hb2 (bs' := bs ++ [.int .u8 c]) (by simpa using hown') (by decide)
  · exact ((hb1.alloc (by have := hb1.size; omega) _).grown hgrow (by have := hb1.size; simp; omega) (fun k hk => (hown.lt k hk).1)).setCell (p := ⟨b, 1, none⟩) hB _
  · exact ((hq1.alloc _).grown (hown.alloc _) hgrow).set 1 _
theorem cellsByte : Tryz.prog.cellsOf 5 = 1 := by kernel_rfl
set_option maxHeartbeats 2000000 in
set_option maxRecDepth 100000 in
theorem string_any (B b : Nat) (l : List UInt8) (w : World) (h : Lib.IsBuilder 137 5 B b (Lib.byteCells l) w) (h0 : l ≠ []) :
    Calls Tryz.prog 122 #[.pointer (some ⟨b, 0, none⟩)] w fun e w' => e = .returned (.string ⟨l.toArray⟩) ∧ Below B w w' := by
  obtain ⟨p, hB, v, hbk, hown, hne⟩ : ∃ p, Lib.BuilderAt 137 5 B b p (Lib.byteCells l) w := by
    rcases h with h | h
    · exact ⟨_, h⟩
    · exact ⟨_, h⟩
  have hl0 : l.length ≠ 0 := by simpa using h0
  rw [Lib.byteCells_length] at hown
  obtain ⟨g, cap, cur, rfl, hbg, hg, hnc, hcm, hcs, htake⟩ : ∃ g cap cur, v = .slice (some ⟨g, 0, none⟩) l.length cap ∧ B ≤ g ∧ w.heap[g]? = some (.cells cur 5 (0, 0)) ∧ l.length ≤ cap ∧ cap ≤ maxLen ∧ cur.size = cap * 1 ∧ cur.toList.take (l.length * 1) = Lib.byteCells l := by
    rcases hown.2 with ⟨_, hz⟩ | ⟨g, cap, cur, hv, r⟩
    · exact absurd hz hl0
    · exact ⟨g, cap, cur, hv, r⟩
  have c1 : w.drew.cell? ⟨b, 1, none⟩ = some (.slice (some ⟨g, 0, none⟩) l.length cap) := by
    have : w.drew.heap[b]? = some (.cells #[p, .slice (some ⟨g, 0, none⟩) l.length cap] 137 (0, 0)) := hbk
    rw [Lib.cell_of_heap this]; rfl
  have hSD : (Builtin.unsafeSliceData_ #[133] 191 #[.slice (some ⟨g, 0, none⟩) l.length cap]).run Tryz.prog w.drew = .ok (.pointer (some ⟨g, 0, none⟩)) w.drew :=
    Lib.run_unsafeSliceData_row _ _ _ _ _ _ (by omega)
  have hUS : (Builtin.unsafeString_ #[191, 3] 9 #[.pointer (some ⟨g, 0, none⟩), .int .i64 l.length]).run Tryz.prog w.drew = .ok (.string ⟨l.toArray⟩) (w.drew.freeze ⟨g, 0, none⟩ l.length) := by
    refine Lib.run_unsafeString_row w.drew 191 3 9 5 Tryz.underlying191 cellsByte g cur.size (by have hg' : w.drew.heap[g]? = some (.cells cur 5 (0, 0)) := hg; simp [World.shape?, hg']) l h0 (by omega) (by unfold maxLen at hcm; omega) ?_
    intro j x hx
    have := hown.cells (g := g) rfl j (.int .u8 x.toNat) (by simp [Lib.byteCells, hx])
    exact this
  have mixed : Tryz.prog.follows .mixedOrders = true := by kernel_rfl
  go_enter Tryz.func122, Tryz.ntmps122
  go_wp2
  go_region_o
  all_goals (go_wp2; go_ret; exact ⟨rfl, Lib.below_freeze (Below.drew (Below.refl B w)) (p := ⟨g, 0, none⟩) hbg _⟩)
end Go.Proofs.YtcidoodaiimhfaaGreat

/- WALKS of an item's writing: a text, a number. -/
namespace Go.Proofs.YtcidoodaiimhfaaGreat
open Go.RowKit

/-- a writer that lies in a block has written these bytes -/
def Writ (B b : Nat) (l : List UInt8) (w : World) : Prop := Lib.IsBuilder 137 5 B b (Lib.byteCells l) w
theorem Writ.lt {B b : Nat} {l : List UInt8} {w : World} (h : Writ B b l w) : b < w.heap.size := by
  rcases h with ⟨_, v, h, _⟩ | ⟨_, v, h, _⟩
  · exact (Array.getElem?_eq_some_iff.1 h).1
  · exact (Array.getElem?_eq_some_iff.1 h).1
theorem Writ.below {B b : Nat} {l : List UInt8} {w w' : World} (h : Writ B b l w) (hb : Below w.heap.size w w') : Writ B b l w' := by
  have go : ∀ p, Lib.BuilderAt 137 5 B b p (Lib.byteCells l) w → Lib.BuilderAt 137 5 B b p (Lib.byteCells l) w' := fun p ⟨h1, v, h2, h3, h4⟩ => by
    refine ⟨h1, v, ?_, ?_, h4⟩
    · rw [hb.block b (Array.getElem?_eq_some_iff.1 h2).1]; exact h2
    · exact (Kept.of_below hb (fun _ => False)).owns h3 (fun _ _ e => e)
  rcases h with h | h
  · exact .inl (go _ h)
  · exact .inr (go _ h)
theorem writByte_any (B b : Nat) (l : List UInt8) (c : UInt8) (ci : Int) (hc : ci = (c.toNat : Int)) (w : World) (h : Writ B b l w) (hl : l.length ≤ 1000000) (hB : B ≤ w.heap.size) :
    Calls Tryz.prog 120 #[.pointer (some ⟨b, 0, none⟩), .int .u8 ci] w fun e w' => e = .returned .nilIface ∧ Writ B b (l ++ [c]) w' ∧ Below B w w' ∧ Guest b w w' := by
  refine (writeByte_any B b (Lib.byteCells l) ci w h (by rw [Lib.byteCells_length]; omega) hB).mono ?_
  rintro e w' ⟨rfl, h1, h2, h3⟩
  refine ⟨rfl, ?_, h2, h3⟩
  unfold Writ
  rw [← byteCells_app]
  simpa [Lib.byteCells, hc] using h1
theorem writStr_any (B b : Nat) (l : List UInt8) (s : ByteArray) (w : World) (h : Writ B b l w) (hl : l.length ≤ 1000000) (hs : s.size ≤ 1000000) (hB : B ≤ w.heap.size) :
    Calls Tryz.prog 121 #[.pointer (some ⟨b, 0, none⟩), .string s] w fun e w' => e = .returned (.tuple #[.int .i64 s.size, .nilIface]) ∧ Writ B b (l ++ s.data.toList) w' ∧ Below B w w' ∧ Guest b w w' := by
  refine (writeString_any B b (Lib.byteCells l) s w h (by rw [Lib.byteCells_length]; omega) hB).mono ?_
  rintro e w' ⟨rfl, h1, h2, h3⟩
  refine ⟨rfl, ?_, h2, h3⟩
  unfold Writ
  rw [← byteCells_app, ← strCells_list]
  exact h1
set_option maxHeartbeats 1000000 in
theorem writeText_any (B b : Nat) (l : List UInt8) (s : ByteArray) (w : World) (h : Writ B b l w) (hl : l.length ≤ 900000) (hs : s.size ≤ 60) (hB : B ≤ w.heap.size) :
    Calls Tryz.prog 123 #[.pointer (some ⟨b, 0, none⟩), .string s] w fun e w' => e = .returned (.tuple #[]) ∧ Writ B b (l ++ encT s) w' ∧ Below B w w' ∧ Guest b w w' := by
  have hsi : ((s.size : Nat) : Int) ≤ 60 := by omega
  have HA : Hid (∀ W, Writ B b l W → B ≤ W.heap.size → Calls Tryz.prog 120 #[.pointer (some ⟨b, 0, none⟩), .int .u8 ((s.size : Nat) : Int)] W fun e w' => e = .returned .nilIface ∧ Writ B b (l ++ [UInt8.ofNat s.size]) w' ∧ Below B W w' ∧ Guest b W w') := fun W h1 h2 => writByte_any B b l (UInt8.ofNat s.size) _ (by rw [ofNat_nat]; omega) W h1 (by omega) h2
  have HS : Hid (∀ W, Writ B b (l ++ [UInt8.ofNat s.size]) W → B ≤ W.heap.size → Calls Tryz.prog 121 #[.pointer (some ⟨b, 0, none⟩), .string s] W fun e w' => e = .returned (.tuple #[.int .i64 s.size, .nilIface]) ∧ Writ B b (l ++ [UInt8.ofNat s.size] ++ s.data.toList) w' ∧ Below B W w' ∧ Guest b W w') := fun W h1 h2 => writStr_any B b _ s W h1 (by simp; omega) (by omega) h2
  have H0 := hide h
  clear h
  go_enter Tryz.func123, Tryz.ntmps123
  go_wp2_with fail
  refine (HA.out _ H0.out hB).mono ?_
  rintro e w1 ⟨rfl, h1, hb1, hq1⟩
  have H1 := hide h1
  have hB1 := Nat.le_trans hB hb1.size
  clear h1
  go_wp2_with fail
  refine (HS.out _ H1.out hB1).mono ?_
  rintro e w2 ⟨rfl, h2, hb2, hq2⟩
  have H2 := hide h2
  clear h2
  go_wp2_with fail
  go_end0
  refine ⟨rfl, ?_, hb1.trans hb2, hq1.trans hq2⟩
  have := H2.out
  rw [List.append_assoc] at this
  exact this
theorem wrap64_small (a : Int) (h1 : -9223372036854775808 ≤ a) (h2 : a ≤ 9223372036854775807) : IntKind.i64.wrap a = a := by
  simp only [IntKind.wrap, IntKind.bits, IntKind.signed]
  first | omega | (simp; omega)
theorem wrap8 (a : Int) : IntKind.u8.wrap a = a % 256 := by
  simp [IntKind.wrap, IntKind.bits, IntKind.signed]
set_option maxRecDepth 100000 in
set_option maxHeartbeats 2000000 in
theorem writeNumber_any (B b : Nat) (l : List UInt8) (n : Int) (w : World) (h : Writ B b l w) (hl : l.length ≤ 900000) (h0 : -999999999 ≤ n) (h1 : n ≤ 999999999) (hB0 : B ≤ w.heap.size) :
    Calls Tryz.prog 124 #[.pointer (some ⟨b, 0, none⟩), .int .i64 n] w fun e w' => e = .returned (.tuple #[]) ∧ Writ B b (l ++ num4 n) w' ∧ Below B w w' ∧ Guest b w w' := by
  have H0 := hide h
  clear h
  go_enter Tryz.func124, Tryz.ntmps124
  go_wp2_with fail
  refine wp_loop_rounds 5 ?_
  rw [rounds_succ]
  go_wp2_with fail
  refine wp_region_held_drew (S := fun _ => True) (by kernel_rfl) trivial (fun hHeld => ?_)
  refine wpAnyH_take (i := 0) (v := .pointer (some ⟨b, 0, none⟩)) rfl (by kernel_rfl) (by kernel_rfl) (by kernel_rfl) (fun _ _ _ h => h) (Or.inl ⟨by kernel_rfl, by intro w hSw; go_simp⟩) (by assumption) ?_
  refine wpAnyH_take (i := 3) (v := .int .i64 n) rfl (by kernel_rfl) (by kernel_rfl) (by kernel_rfl) (fun _ _ _ h => h) (Or.inl ⟨by kernel_rfl, by intro w hSw; go_simp⟩) (by assumption) ?_
  refine wpAnyH_take (i := 5) (v := .int .i64 3) rfl (by kernel_rfl) (by kernel_rfl) (by kernel_rfl) (fun _ _ _ h => h) (Or.inl ⟨by kernel_rfl, by intro w hSw; go_simp⟩) (by assumption) ?_
  refine wpAnyH_take (i := 1) (v := .pointer (some ⟨b, 0, none⟩)) rfl (by kernel_rfl) (by kernel_rfl) (by kernel_rfl) (fun _ _ _ h => h) (Or.inl ⟨by kernel_rfl, by intro w hSw; go_simp⟩) (by assumption) ?_
  refine wpAnyH_take (i := 2) (v := .pointer (some ⟨b, 0, none⟩)) rfl (by kernel_rfl) (by kernel_rfl) (by kernel_rfl) (fun _ _ _ h => h) (Or.inl ⟨by kernel_rfl, by intro w hSw; go_simp⟩) (by assumption) ?_
  refine wpAnyH_take (i := 4) (v := .int .i64 (n + 999999999)) rfl (by kernel_rfl) (by kernel_rfl) (by kernel_rfl) (fun _ _ _ h => h) (Or.inl ⟨by kernel_rfl, by intro w hSw; go_simp; exact wrap64_small _ (by omega) (by omega)⟩) (by assumption) ?_
  refine wpAnyH_take (i := 6) (v := .int .i64 24) rfl (by kernel_rfl) (by kernel_rfl) (by kernel_rfl) (fun _ _ _ h => h) (Or.inl ⟨by kernel_rfl, by intro w hSw; go_simp; exact wrap64_small _ (by omega) (by omega)⟩) (by assumption) ?_
  refine wpAnyH_take (i := 7) (v := .int .i64 ((n + 999999999) / 16777216)) rfl (by kernel_rfl) (by kernel_rfl) (by kernel_rfl) (fun _ _ _ h => h) (Or.inl ⟨by kernel_rfl, by intro w hSw; go_simp⟩) (by assumption) ?_
  refine wpAnyH_take (i := 8) (v := .int .u8 (((n + 999999999) / 16777216) % 256)) rfl (by kernel_rfl) (by kernel_rfl) (by kernel_rfl) (fun _ _ _ h => h) (Or.inl ⟨by kernel_rfl, by intro w hSw; go_simp; exact wrap8 _⟩) (by assumption) ?_
  refine wpAnyH_ready (rs := [9]) (by kernel_rfl) (by simp) ?_
  refine AllReadyH.cons rfl (fun K hK => ?_) AllReadyH.nil
  go_simp
  refine (writByte_any B b (l) (UInt8.ofNat ((n + 999999999).toNat / 16777216)) (((n + 999999999) / 16777216) % 256) (by rw [ofNat_nat]; omega) (World.drew w) (by exact H0.out) (by first | omega | (simp; omega)) (by exact hB0)).mono ?_
  rintro e w1 ⟨rfl, hW1, hb1, hq1⟩
  refine hK.out _ _ trivial (fun _ => ?_)
  clear hK K hHeld
  have H1 := hide hW1
  have hB1 : B ≤ w1.heap.size := Nat.le_trans hB0 hb1.size
  have E1 : Below B w w1 := ⟨hb1.os, hb1.tape, hb1.output, hb1.size, hb1.block⟩
  clear hW1 H0
  refine wpAnyH_done (by kernel_rfl) ?_ _
  go_wp2_with fail
  rw [rounds_succ]
  go_wp2_with fail
  refine wp_region_held_drew (S := fun _ => True) (by kernel_rfl) trivial (fun hHeld => ?_)
  refine wpAnyH_take (i := 0) (v := .pointer (some ⟨b, 0, none⟩)) rfl (by kernel_rfl) (by kernel_rfl) (by kernel_rfl) (fun _ _ _ h => h) (Or.inl ⟨by kernel_rfl, by intro w hSw; go_simp⟩) (by assumption) ?_
  refine wpAnyH_take (i := 3) (v := .int .i64 n) rfl (by kernel_rfl) (by kernel_rfl) (by kernel_rfl) (fun _ _ _ h => h) (Or.inl ⟨by kernel_rfl, by intro w hSw; go_simp⟩) (by assumption) ?_
  refine wpAnyH_take (i := 5) (v := .int .i64 2) rfl (by kernel_rfl) (by kernel_rfl) (by kernel_rfl) (fun _ _ _ h => h) (Or.inl ⟨by kernel_rfl, by intro w hSw; go_simp⟩) (by assumption) ?_
  refine wpAnyH_take (i := 1) (v := .pointer (some ⟨b, 0, none⟩)) rfl (by kernel_rfl) (by kernel_rfl) (by kernel_rfl) (fun _ _ _ h => h) (Or.inl ⟨by kernel_rfl, by intro w hSw; go_simp⟩) (by assumption) ?_
  refine wpAnyH_take (i := 2) (v := .pointer (some ⟨b, 0, none⟩)) rfl (by kernel_rfl) (by kernel_rfl) (by kernel_rfl) (fun _ _ _ h => h) (Or.inl ⟨by kernel_rfl, by intro w hSw; go_simp⟩) (by assumption) ?_
  refine wpAnyH_take (i := 4) (v := .int .i64 (n + 999999999)) rfl (by kernel_rfl) (by kernel_rfl) (by kernel_rfl) (fun _ _ _ h => h) (Or.inl ⟨by kernel_rfl, by intro w hSw; go_simp; exact wrap64_small _ (by omega) (by omega)⟩) (by assumption) ?_
  refine wpAnyH_take (i := 6) (v := .int .i64 16) rfl (by kernel_rfl) (by kernel_rfl) (by kernel_rfl) (fun _ _ _ h => h) (Or.inl ⟨by kernel_rfl, by intro w hSw; go_simp; exact wrap64_small _ (by omega) (by omega)⟩) (by assumption) ?_
  refine wpAnyH_take (i := 7) (v := .int .i64 ((n + 999999999) / 65536)) rfl (by kernel_rfl) (by kernel_rfl) (by kernel_rfl) (fun _ _ _ h => h) (Or.inl ⟨by kernel_rfl, by intro w hSw; go_simp⟩) (by assumption) ?_
  refine wpAnyH_take (i := 8) (v := .int .u8 (((n + 999999999) / 65536) % 256)) rfl (by kernel_rfl) (by kernel_rfl) (by kernel_rfl) (fun _ _ _ h => h) (Or.inl ⟨by kernel_rfl, by intro w hSw; go_simp; exact wrap8 _⟩) (by assumption) ?_
  refine wpAnyH_ready (rs := [9]) (by kernel_rfl) (by simp) ?_
  refine AllReadyH.cons rfl (fun K hK => ?_) AllReadyH.nil
  go_simp
  refine (writByte_any B b (l ++ [UInt8.ofNat ((n + 999999999).toNat / 16777216)]) (UInt8.ofNat ((n + 999999999).toNat / 65536)) (((n + 999999999) / 65536) % 256) (by rw [ofNat_nat]; omega) (World.drew w1) (by exact H1.out) (by first | omega | (simp; omega)) (by exact hB1)).mono ?_
  rintro e w2 ⟨rfl, hW2, hb2, hq2⟩
  refine hK.out _ _ trivial (fun _ => ?_)
  clear hK K hHeld
  have H2 := hide hW2
  have hB2 : B ≤ w2.heap.size := Nat.le_trans hB1 hb2.size
  have E2 : Below B w w2 := E1.trans ⟨hb2.os, hb2.tape, hb2.output, hb2.size, hb2.block⟩
  clear hW2 H1
  refine wpAnyH_done (by kernel_rfl) ?_ _
  go_wp2_with fail
  rw [rounds_succ]
  go_wp2_with fail
  refine wp_region_held_drew (S := fun _ => True) (by kernel_rfl) trivial (fun hHeld => ?_)
  refine wpAnyH_take (i := 0) (v := .pointer (some ⟨b, 0, none⟩)) rfl (by kernel_rfl) (by kernel_rfl) (by kernel_rfl) (fun _ _ _ h => h) (Or.inl ⟨by kernel_rfl, by intro w hSw; go_simp⟩) (by assumption) ?_
  refine wpAnyH_take (i := 3) (v := .int .i64 n) rfl (by kernel_rfl) (by kernel_rfl) (by kernel_rfl) (fun _ _ _ h => h) (Or.inl ⟨by kernel_rfl, by intro w hSw; go_simp⟩) (by assumption) ?_
  refine wpAnyH_take (i := 5) (v := .int .i64 1) rfl (by kernel_rfl) (by kernel_rfl) (by kernel_rfl) (fun _ _ _ h => h) (Or.inl ⟨by kernel_rfl, by intro w hSw; go_simp⟩) (by assumption) ?_
  refine wpAnyH_take (i := 1) (v := .pointer (some ⟨b, 0, none⟩)) rfl (by kernel_rfl) (by kernel_rfl) (by kernel_rfl) (fun _ _ _ h => h) (Or.inl ⟨by kernel_rfl, by intro w hSw; go_simp⟩) (by assumption) ?_
  refine wpAnyH_take (i := 2) (v := .pointer (some ⟨b, 0, none⟩)) rfl (by kernel_rfl) (by kernel_rfl) (by kernel_rfl) (fun _ _ _ h => h) (Or.inl ⟨by kernel_rfl, by intro w hSw; go_simp⟩) (by assumption) ?_
  refine wpAnyH_take (i := 4) (v := .int .i64 (n + 999999999)) rfl (by kernel_rfl) (by kernel_rfl) (by kernel_rfl) (fun _ _ _ h => h) (Or.inl ⟨by kernel_rfl, by intro w hSw; go_simp; exact wrap64_small _ (by omega) (by omega)⟩) (by assumption) ?_
  refine wpAnyH_take (i := 6) (v := .int .i64 8) rfl (by kernel_rfl) (by kernel_rfl) (by kernel_rfl) (fun _ _ _ h => h) (Or.inl ⟨by kernel_rfl, by intro w hSw; go_simp; exact wrap64_small _ (by omega) (by omega)⟩) (by assumption) ?_
  refine wpAnyH_take (i := 7) (v := .int .i64 ((n + 999999999) / 256)) rfl (by kernel_rfl) (by kernel_rfl) (by kernel_rfl) (fun _ _ _ h => h) (Or.inl ⟨by kernel_rfl, by intro w hSw; go_simp⟩) (by assumption) ?_
  refine wpAnyH_take (i := 8) (v := .int .u8 (((n + 999999999) / 256) % 256)) rfl (by kernel_rfl) (by kernel_rfl) (by kernel_rfl) (fun _ _ _ h => h) (Or.inl ⟨by kernel_rfl, by intro w hSw; go_simp; exact wrap8 _⟩) (by assumption) ?_
  refine wpAnyH_ready (rs := [9]) (by kernel_rfl) (by simp) ?_
  refine AllReadyH.cons rfl (fun K hK => ?_) AllReadyH.nil
  go_simp
  refine (writByte_any B b (l ++ [UInt8.ofNat ((n + 999999999).toNat / 16777216)] ++ [UInt8.ofNat ((n + 999999999).toNat / 65536)]) (UInt8.ofNat ((n + 999999999).toNat / 256)) (((n + 999999999) / 256) % 256) (by rw [ofNat_nat]; omega) (World.drew w2) (by exact H2.out) (by first | omega | (simp; omega)) (by exact hB2)).mono ?_
  rintro e w3 ⟨rfl, hW3, hb3, hq3⟩
  refine hK.out _ _ trivial (fun _ => ?_)
  clear hK K hHeld
  have H3 := hide hW3
  have hB3 : B ≤ w3.heap.size := Nat.le_trans hB2 hb3.size
  have E3 : Below B w w3 := E2.trans ⟨hb3.os, hb3.tape, hb3.output, hb3.size, hb3.block⟩
  clear hW3 H2
  refine wpAnyH_done (by kernel_rfl) ?_ _
  go_wp2_with fail
  rw [rounds_succ]
  go_wp2_with fail
  refine wp_region_held_drew (S := fun _ => True) (by kernel_rfl) trivial (fun hHeld => ?_)
  refine wpAnyH_take (i := 0) (v := .pointer (some ⟨b, 0, none⟩)) rfl (by kernel_rfl) (by kernel_rfl) (by kernel_rfl) (fun _ _ _ h => h) (Or.inl ⟨by kernel_rfl, by intro w hSw; go_simp⟩) (by assumption) ?_
  refine wpAnyH_take (i := 3) (v := .int .i64 n) rfl (by kernel_rfl) (by kernel_rfl) (by kernel_rfl) (fun _ _ _ h => h) (Or.inl ⟨by kernel_rfl, by intro w hSw; go_simp⟩) (by assumption) ?_
  refine wpAnyH_take (i := 5) (v := .int .i64 0) rfl (by kernel_rfl) (by kernel_rfl) (by kernel_rfl) (fun _ _ _ h => h) (Or.inl ⟨by kernel_rfl, by intro w hSw; go_simp⟩) (by assumption) ?_
  refine wpAnyH_take (i := 1) (v := .pointer (some ⟨b, 0, none⟩)) rfl (by kernel_rfl) (by kernel_rfl) (by kernel_rfl) (fun _ _ _ h => h) (Or.inl ⟨by kernel_rfl, by intro w hSw; go_simp⟩) (by assumption) ?_
  refine wpAnyH_take (i := 2) (v := .pointer (some ⟨b, 0, none⟩)) rfl (by kernel_rfl) (by kernel_rfl) (by kernel_rfl) (fun _ _ _ h => h) (Or.inl ⟨by kernel_rfl, by intro w hSw; go_simp⟩) (by assumption) ?_
  refine wpAnyH_take (i := 4) (v := .int .i64 (n + 999999999)) rfl (by kernel_rfl) (by kernel_rfl) (by kernel_rfl) (fun _ _ _ h => h) (Or.inl ⟨by kernel_rfl, by intro w hSw; go_simp; exact wrap64_small _ (by omega) (by omega)⟩) (by assumption) ?_
  refine wpAnyH_take (i := 6) (v := .int .i64 0) rfl (by kernel_rfl) (by kernel_rfl) (by kernel_rfl) (fun _ _ _ h => h) (Or.inl ⟨by kernel_rfl, by intro w hSw; go_simp; exact wrap64_small _ (by omega) (by omega)⟩) (by assumption) ?_
  refine wpAnyH_take (i := 7) (v := .int .i64 (n + 999999999)) rfl (by kernel_rfl) (by kernel_rfl) (by kernel_rfl) (fun _ _ _ h => h) (Or.inl ⟨by kernel_rfl, by intro w hSw; go_simp⟩) (by assumption) ?_
  refine wpAnyH_take (i := 8) (v := .int .u8 ((n + 999999999) % 256)) rfl (by kernel_rfl) (by kernel_rfl) (by kernel_rfl) (fun _ _ _ h => h) (Or.inl ⟨by kernel_rfl, by intro w hSw; go_simp; exact wrap8 _⟩) (by assumption) ?_
  refine wpAnyH_ready (rs := [9]) (by kernel_rfl) (by simp) ?_
  refine AllReadyH.cons rfl (fun K hK => ?_) AllReadyH.nil
  go_simp
  refine (writByte_any B b (l ++ [UInt8.ofNat ((n + 999999999).toNat / 16777216)] ++ [UInt8.ofNat ((n + 999999999).toNat / 65536)] ++ [UInt8.ofNat ((n + 999999999).toNat / 256)]) (UInt8.ofNat (n + 999999999).toNat) ((n + 999999999) % 256) (by rw [ofNat_nat]; omega) (World.drew w3) (by exact H3.out) (by first | omega | (simp; omega)) (by exact hB3)).mono ?_
  rintro e w4 ⟨rfl, hW4, hb4, hq4⟩
  refine hK.out _ _ trivial (fun _ => ?_)
  clear hK K hHeld
  have H4 := hide hW4
  have hB4 : B ≤ w4.heap.size := Nat.le_trans hB3 hb4.size
  have E4 : Below B w w4 := E3.trans ⟨hb4.os, hb4.tape, hb4.output, hb4.size, hb4.block⟩
  clear hW4 H3
  refine wpAnyH_done (by kernel_rfl) ?_ _
  go_wp2_with fail
  rw [rounds_succ]
  go_wp2_with fail
  go_end0
  refine ⟨rfl, ?_, E4, (((Guest.trans (w2 := w1) hq1 hq2).trans hq3).trans hq4)⟩
  have := H4.out
  simpa [num4] using this
end Go.Proofs.YtcidoodaiimhfaaGreat

/- WALK of the encoding of items. -/
namespace Go.Proofs.YtcidoodaiimhfaaGreat
open Go.RowKit

theorem alloc_new (w : World) (o : Obj) : (w.alloc o).heap[w.heap.size]? = some o := by
  show (w.heap.push o)[w.heap.size]? = some o
  simp
def encV (x : Itm) : List UInt8 := if chkI x = 0 then encI x else []
theorem encT_len {t : ByteArray} (h : t.size ≤ 60) : (encT t).length ≤ 200 := by
  unfold encT
  rw [List.length_cons, size_list]
  omega
set_option maxRecDepth 100000 in
set_option maxHeartbeats 16000000 in
theorem encode_any (v : Value) (x : Itm) (w : World) (h : ItemIs w v x) :
    Calls Tryz.prog 47 #[v] w fun e w' => e = .returned (.tuple #[.string ⟨(encV x).toArray⟩, .int .i64 (chkI x)]) ∧ Below w.heap.size w w' := by
  have HC : Hid (∀ W, Below w.heap.size w W → Calls Tryz.prog 75 #[v] W fun e w' => e = .returned (.int .i64 (chkI x)) ∧ Below W.heap.size W w') := fun W hW => check_any v x W (h.below hW)
  obtain ⟨⟨a1, c1, a2, c2, a3, c3, rfl, hx1, hx2, hx3⟩, -, -, -, -, -, -, -⟩ := h
  by_cases h0 : chkI x = 0
  · have R := right_of h0
    rw [encV, if_pos h0, h0]
    rw [h0] at HC
    have hk1 := R.k1
    have hk5 := R.k5
    have htz := R.tz
    have hn1 := R.ln
    have hn2 := R.pn
    have hn3 := R.sn
    have HR1 := hide R.lz
    have HR2 := hide R.pz
    have HR3 : Hid (∀ t ∈ x.s, t.2.size ≤ 60 ∧ -999999999 ≤ t.1 ∧ t.1 ≤ 999999999) := fun t ht => ⟨R.sz t ht, R.sr t ht⟩
    have HZ1 : Hid (∀ t ∈ x.l, (encT t).length ≤ 200) := fun t ht => encT_len (R.lz t ht)
    have HZ2 : Hid (∀ t ∈ x.p, (encP t).length ≤ 200) := fun t ht => by
      have h1 := (R.pz t ht).1
      have h2 := (R.pz t ht).2
      unfold encP encT
      rw [List.length_append, List.length_cons, List.length_cons, size_list, size_list]
      omega
    have HZ3 : Hid (∀ t ∈ x.s, (encS t).length ≤ 200) := fun t ht => by
      have h1 := R.sz t ht
      unfold encS num4 encT
      simp only [List.length_append, List.length_cons, List.length_nil, size_list]
      omega
    have hF1 : ((x.l.map encT).flatten).length ≤ 4800 := by have := flat_len encT 200 x.l HZ1.out; omega
    have hF2 : ((x.p.map encP).flatten).length ≤ 4800 := by have := flat_len encP 200 x.p HZ2.out; omega
    have HT1 := hide hx1
    have HT2 := hide hx2
    have HT3 := hide hx3
    by_cases hk : x.k = 1
    · have HEN : Hid (encI x = 1 :: x.t.data.toList) := by rw [Hid, encI, if_pos hk]
      rw [hk] at HC ⊢
      clear R h0 hx1 hx2 hx3 HT1 HT2 HT3 HR1 HR2 HR3 HZ1 HZ2 HZ3 hk hk1 hk5 hF1 hF2
      generalize encI x = EN at *
      generalize x.t = t at *
      generalize x.l.length = n1 at *
      generalize x.p.length = n2 at *
      generalize x.s.length = n3 at *
      go_enter Tryz.func47, Tryz.ntmps47
      go_wp2_with fail
      refine (HC.out _ ((Below.refl _ w).alloc (Nat.le_refl _) _)).mono ?_
      rintro e w1 ⟨rfl, hb1⟩
      have hB1 : Below w.heap.size w w1 := ((Below.refl _ w).alloc (Nat.le_refl _) _).trans (hb1.mono (by simp))
      have X1 := hide ((BoxAt.new w (.int .i64 1) (.string t) (.slice a1 n1 c1) (.slice a2 n2 c2) (.slice a3 n3 c3) 28).below hb1)
      have hy : w.heap.size < w1.heap.size := X1.out.lt
      obtain ⟨xc0, xc1, xc2, xc3, xc4, xlt⟩ := X1.out
      go_wp2_with fail
      have WR0 : Hid (Writ w1.heap.size w1.heap.size [] (w1.alloc (.cells #[.pointer none, .slice none 0 0] 137))) := .inl ⟨Nat.le_refl _, .slice none 0 0, alloc_new _ _, World.ownsRow_nil _ _ _ _, by simp [Value.ownBlock]⟩
      have E1 : Hid (Below w1.heap.size w1 (w1.alloc (.cells #[.pointer none, .slice none 0 0] 137))) := (Below.refl _ w1).alloc (Nat.le_refl _) _
      clear xc0 xc1 xc2 xc3 xc4 xlt hb1
      refine (writByte_any w1.heap.size w1.heap.size [] 1 1 rfl _ WR0.out (by simp) (by simp)).mono ?_
      rintro e w2 ⟨rfl, hW2, hb2, hq2⟩
      have E2 : Below w1.heap.size w1 w2 := E1.out.trans hb2
      have W2 : Hid (Writ w1.heap.size w1.heap.size [1] w2) := hW2
      clear hW2 WR0 E1 hb2 hq2
      obtain ⟨xc0, xc1, xc2, xc3, xc4, xlt⟩ := X1.out.below E2
      go_wp2_with fail
      clear xc0 xc1 xc2 xc3 xc4 xlt
      refine (writStr_any w1.heap.size w1.heap.size [1] t _ W2.out (by simp) (by omega) E2.size).mono ?_
      rintro e w3 ⟨rfl, hW3, hb3, hq3⟩
      have E3 : Below w1.heap.size w1 w3 := E2.trans hb3
      have W3 := hide hW3
      clear hW3 hq3 hb3 W2 E2
      go_wp2_with fail
      refine (string_any w1.heap.size w1.heap.size _ w3 W3.out (by simp)).mono ?_
      rintro e w9 ⟨rfl, hb9⟩
      have E9 : Below w1.heap.size w1 w9 := E3.trans hb9
      go_wp2_with fail
      go_ret2
      refine ⟨?_, hB1.trans (E9.mono hB1.size)⟩
      rw [HEN.out]
      simp
    · have HEN : Hid (encI x = UInt8.ofNat x.k.toNat :: UInt8.ofNat (x.l.length + x.p.length + x.s.length) :: ((x.l.map encT).flatten ++ (x.p.map encP).flatten ++ (x.s.map encS).flatten)) := by rw [Hid, encI, if_neg hk]; rfl
      have hkb : (x.k == 1) = false := by rw [beq_eq_false_iff_ne]; exact hk
      clear R h0 hx1 hx2 hx3
      generalize encI x = EN at *
      generalize x.t = t at *
      generalize x.k = k at *
      generalize x.l = xl at *
      generalize x.p = xp at *
      generalize x.s = xs at *
      go_enter Tryz.func47, Tryz.ntmps47
      go_wp2_with fail
      refine (HC.out _ ((Below.refl _ w).alloc (Nat.le_refl _) _)).mono ?_
      rintro e w1 ⟨rfl, hb1⟩
      have hB1 : Below w.heap.size w w1 := ((Below.refl _ w).alloc (Nat.le_refl _) _).trans (hb1.mono (by simp))
      have X1 := hide ((BoxAt.new w (.int .i64 k) (.string t) (.slice a1 xl.length c1) (.slice a2 xp.length c2) (.slice a3 xs.length c3) 28).below hb1)
      have hy : w.heap.size < w1.heap.size := X1.out.lt
      obtain ⟨xc0, xc1, xc2, xc3, xc4, xlt⟩ := X1.out
      go_wp2_with fail
      have WR0 : Hid (Writ w1.heap.size w1.heap.size [] (w1.alloc (.cells #[.pointer none, .slice none 0 0] 137))) := .inl ⟨Nat.le_refl _, .slice none 0 0, alloc_new _ _, World.ownsRow_nil _ _ _ _, by simp [Value.ownBlock]⟩
      have E1 : Hid (Below w1.heap.size w1 (w1.alloc (.cells #[.pointer none, .slice none 0 0] 137))) := (Below.refl _ w1).alloc (Nat.le_refl _) _
      clear xc0 xc1 xc2 xc3 xc4 xlt hb1
      refine (writByte_any w1.heap.size w1.heap.size [] (UInt8.ofNat k.toNat) k (by rw [ofNat_nat]; omega) _ WR0.out (by simp) (by simp)).mono ?_
      rintro e w2 ⟨rfl, hW2, hb2, hq2⟩
      have E2 : Below w1.heap.size w1 w2 := E1.out.trans hb2
      have W2 : Hid (Writ w1.heap.size w1.heap.size [UInt8.ofNat k.toNat] w2) := hW2
      clear hW2 WR0 E1 hb2 hq2
      obtain ⟨xc0, xc1, xc2, xc3, xc4, xlt⟩ := X1.out.below E2
      go_wp2_with fail
      clear xc0 xc1 xc2 xc3 xc4 xlt
      refine (writByte_any w1.heap.size w1.heap.size [UInt8.ofNat k.toNat] (UInt8.ofNat (xl.length + xp.length + xs.length)) (((xl.length : Nat) : Int) + ((xp.length : Nat) : Int) + ((xs.length : Nat) : Int)) (by rw [ofNat_nat]; omega) _ W2.out (by simp) E2.size).mono ?_
      rintro e w3 ⟨rfl, hW3, hb3, hq3⟩
      have E3 : Below w1.heap.size w1 w3 := E2.trans hb3
      have W3 : Hid (Writ w1.heap.size w1.heap.size [UInt8.ofNat k.toNat, UInt8.ofNat (xl.length + xp.length + xs.length)] w3) := hW3
      clear hW3 hq3 hb3 W2 E2
      obtain ⟨xc0, xc1, xc2, xc3, xc4, xlt⟩ := X1.out.below E3
      go_wp2_with fail
      clear xc0 xc1 xc2 xc3 xc4 xlt
      go_loopw [48] (fun i wr => ∃ j : Nat, j ≤ xl.length ∧ i = .int .i64 j ∧ Writ w1.heap.size w1.heap.size ([UInt8.ofNat k.toNat, UInt8.ofNat (xl.length + xp.length + xs.length)] ++ ((xl.take j).map encT).flatten) wr ∧ Below w1.heap.size w1 wr) (fun i _ => xl.length - (intOf i).toNat)
      case atStart => exact ⟨0, Nat.zero_le _, rfl, by rw [List.take_zero, List.map_nil, List.flatten_nil, List.append_nil]; exact W3.out, E3⟩
      case round =>
        clear W3 E3
        obtain ⟨j, hj, rfl, hWr, hbr⟩ := hrel
        have WRJ := hide hWr
        have hzr := hbr.size
        clear hWr
        by_cases hlt : j < xl.length
        · have hlt' : ((j : Nat) : Int) < ((xl.length : Nat) : Int) := by omega
          have hbd : ([UInt8.ofNat k.toNat, UInt8.ofNat (xl.length + xp.length + xs.length)] ++ ((xl.take j).map encT).flatten).length ≤ 20000 := by
            have h1 := flat_len encT 200 (xl.take j) (fun a ha => HZ1.out a (List.mem_of_mem_take ha))
            rw [List.length_take] at h1
            have h2 : min j xl.length ≤ 24 := by omega
            simp only [List.length_append, List.length_cons, List.length_nil]
            omega
          have HS := hide (flat_take encT xl hlt)
          obtain ⟨g, o, rfl, hcs⟩ : ∃ g o, a1 = some ⟨g, o, none⟩ ∧ ∀ i (h : i < xl.length), w.cell? ⟨g, o + i, none⟩ = some (.string xl[i]) := by
            rcases HT1.out with h | h
            · subst h; simp at hlt
            · exact h
          have BR : Below w.heap.size w wr := hB1.trans (hbr.mono hB1.size)
          have d0 : wr.cell? ⟨g, o + j, none⟩ = some (.string xl[j]) := (BR.cell (p := ⟨g, o + j, none⟩) (World.block_lt_of_cell? _ _ (hcs j hlt))).trans (hcs j hlt)
          have hz60 : xl[j].size ≤ 60 := HR1.out _ (List.getElem_mem hlt)
          clear hcs HT1 HT2 HT3 X1 HR1 HR2 HR3
          generalize xl[j] = X at *
          go_wp2_with fail
          refine (writeText_any w1.heap.size w1.heap.size _ X wr WRJ.out (by omega) hz60 hzr).mono ?_
          rintro e w4 ⟨rfl, hW4, hb4, hq4⟩
          have E4 : Below w1.heap.size w1 w4 := hbr.trans hb4
          have W4 := hide hW4
          clear hW4 WRJ
          go_wp2_with fail
          go_roundw
          case rel => exact ⟨j + 1, by omega, by go_num, by rw [HS.out, ← List.append_assoc]; exact W4.out, E4⟩
          case measure => simp [intOf]; omega
        · have hge : ¬ ((j : Nat) : Int) < ((xl.length : Nat) : Int) := by omega
          obtain rfl : j = xl.length := by omega
          rw [List.take_length] at WRJ
          have WRI := WRJ
          have hbi := hbr
          clear WRJ
          obtain ⟨xc0, xc1, xc2, xc3, xc4, xlt⟩ := X1.out.below hbr
          go_wp2_with fail
          clear xc0 xc1 xc2 xc3 xc4 xlt
          clear hbr hzr hj hlt hge
          go_loopw [58] (fun i wr => ∃ j : Nat, j ≤ xp.length ∧ i = .int .i64 j ∧ Writ w1.heap.size w1.heap.size (([UInt8.ofNat k.toNat, UInt8.ofNat (xl.length + xp.length + xs.length)] ++ (xl.map encT).flatten) ++ ((xp.take j).map encP).flatten) wr ∧ Below w1.heap.size w1 wr) (fun i _ => xp.length - (intOf i).toNat)
          case atStart => exact ⟨0, Nat.zero_le _, rfl, by rw [List.take_zero, List.map_nil, List.flatten_nil, List.append_nil]; exact WRI.out, hbi⟩
          case round =>
            clear WRI hbi
            obtain ⟨j, hj, rfl, hWr, hbr⟩ := hrel
            have WRJ := hide hWr
            have hzr := hbr.size
            clear hWr
            by_cases hlt : j < xp.length
            · have hlt' : ((j : Nat) : Int) < ((xp.length : Nat) : Int) := by omega
              have hbd : (([UInt8.ofNat k.toNat, UInt8.ofNat (xl.length + xp.length + xs.length)] ++ (xl.map encT).flatten) ++ ((xp.take j).map encP).flatten).length ≤ 20000 := by
                have h1 := flat_len encP 200 (xp.take j) (fun a ha => HZ2.out a (List.mem_of_mem_take ha))
                rw [List.length_take] at h1
                have h2 : min j xp.length ≤ 24 := by omega
                simp only [List.length_append, List.length_cons, List.length_nil]
                omega
              have HS := hide (flat_take encP xp hlt)
              obtain ⟨g, o, rfl, hcs⟩ : ∃ g o, a2 = some ⟨g, o, none⟩ ∧ ∀ i (h : i < xp.length), w.cell? ⟨g, o + i * 2, none⟩ = some (.string xp[i].1) ∧ w.cell? ⟨g, o + i * 2 + 1, none⟩ = some (.string xp[i].2) := by
                rcases HT2.out with h | h
                · subst h; simp at hlt
                · exact h
              have BR : Below w.heap.size w wr := hB1.trans (hbr.mono hB1.size)
              have d0 : wr.cell? ⟨g, o + j * 2, none⟩ = some (.string xp[j].1) := (BR.cell (p := ⟨g, o + j * 2, none⟩) (World.block_lt_of_cell? _ _ (hcs j hlt).1)).trans (hcs j hlt).1
              have d1 : wr.cell? ⟨g, o + j * 2 + 1, none⟩ = some (.string xp[j].2) := (BR.cell (p := ⟨g, o + j * 2 + 1, none⟩) (World.block_lt_of_cell? _ _ (hcs j hlt).2)).trans (hcs j hlt).2
              have hz60 := HR2.out _ (List.getElem_mem hlt)
              clear hcs HT1 HT2 HT3 X1 HR1 HR2 HR3
              generalize xp[j] = X at *
              obtain ⟨X1', X2'⟩ := X
              simp only at d0 d1 hz60
              go_wp2_with fail
              have hbl : w1.heap.size < wr.heap.size := WRJ.out.lt
              have GB : Hid ((wr.alloc (.cells #[.string X1', .string X2'] 87)).heap[wr.heap.size]? = some (.cells #[.string X1', .string X2'] 87)) := alloc_new _ _
              have WA := hide (WRJ.out.below ((Below.refl _ wr).alloc (Nat.le_refl _) (.cells #[.string X1', .string X2'] 87)))
              have EA := hide (hbr.alloc hzr (.cells #[.string X1', .string X2'] 87))
              have hza : w1.heap.size ≤ (wr.alloc (.cells #[.string X1', .string X2'] 87)).heap.size := by simp; omega
              refine (writeText_any w1.heap.size w1.heap.size _ X1' _ WA.out (by omega) hz60.1 hza).mono ?_
              rintro e w4 ⟨rfl, hW4, hb4, hq4⟩
              have G4 := hq4 _ _ GB.out (by intro cur fz e; injection e with e1 e2; cases e2) (by omega)
              have E4 : Below w1.heap.size w1 w4 := EA.out.trans hb4
              have W4 := hide hW4
              have p0 : w4.cell? ⟨wr.heap.size, 0, none⟩ = some (.string X1') := by rw [Lib.cell_of_heap G4]; rfl
              have p1 : w4.cell? ⟨wr.heap.size, 1, none⟩ = some (.string X2') := by rw [Lib.cell_of_heap G4]; rfl
              have hz4 := E4.size
              clear hW4 WRJ WA EA GB G4 hq4 hb4
              go_wp2_with fail
              refine (writeText_any w1.heap.size w1.heap.size _ X2' w4 W4.out (by rw [List.length_append]; have := encT_len hz60.1; omega) hz60.2 hz4).mono ?_
              rintro e w5 ⟨rfl, hW5, hb5, hq5⟩
              have E5 : Below w1.heap.size w1 w5 := E4.trans hb5
              have W5 := hide hW5
              clear hW5 W4
              go_wp2_with fail
              go_roundw
              case rel =>
                refine ⟨j + 1, by omega, by go_num, ?_, E5⟩
                rw [HS.out, ← List.append_assoc]
                have := W5.out
                rw [List.append_assoc _ (encT X1')] at this
                exact this
              case measure => simp [intOf]; omega
            · have hge : ¬ ((j : Nat) : Int) < ((xp.length : Nat) : Int) := by omega
              obtain rfl : j = xp.length := by omega
              rw [List.take_length] at WRJ
              have WRK := WRJ
              have hbk := hbr
              clear WRJ
              obtain ⟨xc0, xc1, xc2, xc3, xc4, xlt⟩ := X1.out.below hbr
              go_wp2_with fail
              clear xc0 xc1 xc2 xc3 xc4 xlt
              clear hbr hzr hj hlt hge
              go_loopw [72] (fun i wr => ∃ j : Nat, j ≤ xs.length ∧ i = .int .i64 j ∧ Writ w1.heap.size w1.heap.size ((([UInt8.ofNat k.toNat, UInt8.ofNat (xl.length + xp.length + xs.length)] ++ (xl.map encT).flatten) ++ (xp.map encP).flatten) ++ ((xs.take j).map encS).flatten) wr ∧ Below w1.heap.size w1 wr) (fun i _ => xs.length - (intOf i).toNat)
              case atStart => exact ⟨0, Nat.zero_le _, rfl, by rw [List.take_zero, List.map_nil, List.flatten_nil, List.append_nil]; exact WRK.out, hbk⟩
              case round =>
                clear WRK hbk
                obtain ⟨j, hj, rfl, hWr, hbr⟩ := hrel
                have WRJ := hide hWr
                have hzr := hbr.size
                clear hWr
                by_cases hlt : j < xs.length
                · have hlt' : ((j : Nat) : Int) < ((xs.length : Nat) : Int) := by omega
                  have hbd : ((([UInt8.ofNat k.toNat, UInt8.ofNat (xl.length + xp.length + xs.length)] ++ (xl.map encT).flatten) ++ (xp.map encP).flatten) ++ ((xs.take j).map encS).flatten).length ≤ 20000 := by
                    have h1 := flat_len encS 200 (xs.take j) (fun a ha => HZ3.out a (List.mem_of_mem_take ha))
                    rw [List.length_take] at h1
                    have h2 : min j xs.length ≤ 24 := by omega
                    simp only [List.length_append, List.length_cons, List.length_nil]
                    omega
                  have HS := hide (flat_take encS xs hlt)
                  obtain ⟨g, o, rfl, hcs⟩ : ∃ g o, a3 = some ⟨g, o, none⟩ ∧ ∀ i (h : i < xs.length), w.cell? ⟨g, o + i * 2, none⟩ = some (.int .i64 xs[i].1) ∧ w.cell? ⟨g, o + i * 2 + 1, none⟩ = some (.string xs[i].2) := by
                    rcases HT3.out with h | h
                    · subst h; simp at hlt
                    · exact h
                  have BR : Below w.heap.size w wr := hB1.trans (hbr.mono hB1.size)
                  have d0 : wr.cell? ⟨g, o + j * 2, none⟩ = some (.int .i64 xs[j].1) := (BR.cell (p := ⟨g, o + j * 2, none⟩) (World.block_lt_of_cell? _ _ (hcs j hlt).1)).trans (hcs j hlt).1
                  have d1 : wr.cell? ⟨g, o + j * 2 + 1, none⟩ = some (.string xs[j].2) := (BR.cell (p := ⟨g, o + j * 2 + 1, none⟩) (World.block_lt_of_cell? _ _ (hcs j hlt).2)).trans (hcs j hlt).2
                  have hz60 := HR3.out _ (List.getElem_mem hlt)
                  clear hcs HT1 HT2 HT3 X1 HR1 HR2 HR3
                  generalize xs[j] = X at *
                  obtain ⟨X1', X2'⟩ := X
                  simp only at d0 d1 hz60
                  go_wp2_with fail
                  have hbl : w1.heap.size < wr.heap.size := WRJ.out.lt
                  have GB : Hid ((wr.alloc (.cells #[.int .i64 X1', .string X2'] 89)).heap[wr.heap.size]? = some (.cells #[.int .i64 X1', .string X2'] 89)) := alloc_new _ _
                  have WA := hide (WRJ.out.below ((Below.refl _ wr).alloc (Nat.le_refl _) (.cells #[.int .i64 X1', .string X2'] 89)))
                  have EA := hide (hbr.alloc hzr (.cells #[.int .i64 X1', .string X2'] 89))
                  have hza : w1.heap.size ≤ (wr.alloc (.cells #[.int .i64 X1', .string X2'] 89)).heap.size := by simp; omega
                  refine (writeNumber_any w1.heap.size w1.heap.size _ X1' _ WA.out (by omega) hz60.2.1 hz60.2.2 hza).mono ?_
                  rintro e w4 ⟨rfl, hW4, hb4, hq4⟩
                  have G4 := hq4 _ _ GB.out (by intro cur fz e; injection e with e1 e2; cases e2) (by omega)
                  have E4 : Below w1.heap.size w1 w4 := EA.out.trans hb4
                  have W4 := hide hW4
                  have p0 : w4.cell? ⟨wr.heap.size, 0, none⟩ = some (.int .i64 X1') := by rw [Lib.cell_of_heap G4]; rfl
                  have p1 : w4.cell? ⟨wr.heap.size, 1, none⟩ = some (.string X2') := by rw [Lib.cell_of_heap G4]; rfl
                  have hz4 := E4.size
                  clear hW4 WRJ WA EA GB G4 hq4 hb4
                  go_wp2_with fail
                  refine (writeText_any w1.heap.size w1.heap.size _ X2' w4 W4.out (by rw [List.length_append]; have : (num4 X1').length = 4 := rfl; omega) hz60.1 hz4).mono ?_
                  rintro e w5 ⟨rfl, hW5, hb5, hq5⟩
                  have E5 : Below w1.heap.size w1 w5 := E4.trans hb5
                  have W5 := hide hW5
                  clear hW5 W4
                  go_wp2_with fail
                  go_roundw
                  case rel =>
                    refine ⟨j + 1, by omega, by go_num, ?_, E5⟩
                    rw [HS.out, ← List.append_assoc]
                    have := W5.out
                    rw [List.append_assoc _ (num4 X1')] at this
                    exact this
                  case measure => simp [intOf]; omega
                · have hge : ¬ ((j : Nat) : Int) < ((xs.length : Nat) : Int) := by omega
                  obtain rfl : j = xs.length := by omega
                  rw [List.take_length] at WRJ
                  clear HT1 HT2 HT3 X1 HR1 HR2 HR3
                  go_wp2_with fail
                  refine (string_any w1.heap.size w1.heap.size _ wr WRJ.out (by simp)).mono ?_
                  rintro e w9 ⟨rfl, hb9⟩
                  have E9 : Below w1.heap.size w1 w9 := hbr.trans hb9
                  go_wp2_with fail
                  go_ret2
                  refine ⟨?_, hB1.trans (E9.mono hB1.size)⟩
                  rw [HEN.out]
                  simp
  · rw [encV, if_neg h0]
    have h0' : (chkI x == 0) = false := by rw [beq_eq_false_iff_ne]; exact h0
    clear hx1 hx2 hx3
    generalize chkI x = E at *
    generalize x.t = t at *
    generalize x.k = k at *
    generalize x.l.length = n1 at *
    generalize x.p.length = n2 at *
    generalize x.s.length = n3 at *
    go_enter Tryz.func47, Tryz.ntmps47
    go_wp2_with fail
    refine (HC.out _ ((Below.refl _ w).alloc (Nat.le_refl _) _)).mono ?_
    rintro e w1 ⟨rfl, hb1⟩
    have hB1 : Below w.heap.size w w1 := ((Below.refl _ w).alloc (Nat.le_refl _) _).trans (hb1.mono (by simp))
    have X1 := hide ((BoxAt.new w (.int .i64 k) (.string t) (.slice a1 n1 c1) (.slice a2 n2 c2) (.slice a3 n3 c3) 28).below hb1)
    have hy : w.heap.size < w1.heap.size := X1.out.lt
    clear X1
    go_wp2_with fail
    go_ret2
    exact ⟨rfl, hB1⟩
end Go.Proofs.YtcidoodaiimhfaaGreat

/- WALK of an item out of bytes. -/
namespace Go.Proofs.YtcidoodaiimhfaaGreat
open Go.RowKit

theorem five_off (w : World) (b : Nat) (v0 v1 v2 v3 v4 : Value) (g o : Nat) (hg : g ≠ b) : (((((w.setCell ⟨b, 0, none⟩ v0).setCell ⟨b, 1, none⟩ v1).setCell ⟨b, 2, none⟩ v2).setCell ⟨b, 3, none⟩ v3).setCell ⟨b, 4, none⟩ v4).cell? ⟨g, o, none⟩ = w.cell? ⟨g, o, none⟩ := by
  rw [World.cell?_setCell_other _ _ _ _ (by intro e; injection e with e1; omega), World.cell?_setCell_other _ _ _ _ (by intro e; injection e with e1; omega), World.cell?_setCell_other _ _ _ _ (by intro e; injection e with e1; omega), World.cell?_setCell_other _ _ _ _ (by intro e; injection e with e1; omega), World.cell?_setCell_other _ _ _ _ (by intro e; injection e with e1; omega)]
set_option maxRecDepth 100000 in
set_option maxHeartbeats 16000000 in
theorem decAll_any (b : Nat) (s : ByteArray) (l : List UInt8) (w : World) (h : AtL b s l w) (hs : s.size ≤ 281474976710656) :
    Calls Tryz.prog 127 #[.pointer (some ⟨b, 0, none⟩)] w fun e w' => Kept (one b) w w' ∧ (pItem l = none → ∃ n : Int, n ≠ 0 ∧ e = .panicked [{ v := .iface 194 (.agg #[.int .i64 (n)]), recovered := false }]) ∧ ∀ x, pItem l = some x → ∃ v, e = .returned v ∧ ∀ W, StaysF (w.heap.size + 1) w' W → ItemIs W v x := by
  have hbl := h.lt
  have hne : w.heap.size ≠ b := by omega
  have HK : Hid (Kept (one b) w (w.alloc (.cells #[.int .i64 0, .string ⟨#[]⟩, .slice none 0 0, .slice none 0 0, .slice none 0 0] 28))) := (Kept.refl _ _).alloc _
  have RB := hide (BoxAt.new w (.int .i64 0) (.string ⟨#[]⟩) (.slice none 0 0) (.slice none 0 0) (.slice none 0 0) 28)
  have RSo : Hid (SoftB (w.alloc (.cells #[.int .i64 0, .string ⟨#[]⟩, .slice none 0 0, .slice none 0 0, .slice none 0 0] 28)) w.heap.size) := fun j => by simp [go_sem]
  have hA := h.alloc (.cells #[.int .i64 0, .string ⟨#[]⟩, .slice none 0 0, .slice none 0 0, .slice none 0 0] 28)
  clear h
  cases l with
  | nil =>
    have HN := hide (next_short b s _ hA)
    clear hA
    go_enter Tryz.func127, Tryz.ntmps127
    go_wp2_with fail
    refine HN.out.mono ?_
    rintro e w1 ⟨rfl, hk1⟩
    exact ⟨rfl, HK.out.trans hk1, fun _ => ⟨8, by decide, rfl⟩, fun x hx => by cases hx⟩
  | cons c r =>
    have HN := hide (next_ok b s c r _ hA)
    have hc := byte_lt c
    clear hA
    by_cases k1 : c.toNat = 1
    · have HP : Hid (pItem (c :: r) = some ⟨1, ⟨r.toArray⟩, [], [], []⟩) := by rw [Hid, pItem, if_pos k1]
      rw [k1] at HN
      generalize pItem (c :: r) = PI at *
      clear hc k1
      go_enter Tryz.func127, Tryz.ntmps127
      go_wp2_with fail
      refine HN.out.mono ?_
      rintro e w1 ⟨rfl, h1, hk1⟩
      have hz1 : w.heap.size < w1.heap.size := by have := hk1.size; simp at this; omega
      have R1 := hide (RB.out.kept hk1 hne)
      have RS1 := hide (RSo.out.kept hk1 RB.out.lt hne)
      have A1 := hide (h1.alloc (.cells #[.int .i64 1, .string ⟨#[]⟩, .slice none 0 0, .slice none 0 0, .slice none 0 0] 28))
      have X1 := hide (BoxAt.new w1 (.int .i64 1) (.string ⟨#[]⟩) (.slice none 0 0) (.slice none 0 0) (.slice none 0 0) 28)
      have XS1 : Hid (SoftB (w1.alloc (.cells #[.int .i64 1, .string ⟨#[]⟩, .slice none 0 0, .slice none 0 0, .slice none 0 0] 28)) w1.heap.size) := fun j => by simp [go_sem]
      have K1 := hide ((HK.out.trans hk1).alloc (.cells #[.int .i64 1, .string ⟨#[]⟩, .slice none 0 0, .slice none 0 0, .slice none 0 0] 28))
      have R2 := hide (R1.out.alloc (.cells #[.int .i64 1, .string ⟨#[]⟩, .slice none 0 0, .slice none 0 0, .slice none 0 0] 28))
      have RS2 : Hid (SoftB (w1.alloc (.cells #[.int .i64 1, .string ⟨#[]⟩, .slice none 0 0, .slice none 0 0, .slice none 0 0] 28)) w.heap.size) := fun j => by
        have := RS1.out j
        simpa using (((Below.refl w1.heap.size w1).alloc (Nat.le_refl _) (.cells #[.int .i64 1, .string ⟨#[]⟩, .slice none 0 0, .slice none 0 0, .slice none 0 0] 28)).frozen (p := ⟨w.heap.size, j, none⟩) hz1).trans this
      have hz2 : w1.heap.size < (w1.alloc (.cells #[.int .i64 1, .string ⟨#[]⟩, .slice none 0 0, .slice none 0 0, .slice none 0 0] 28)).heap.size := by simp
      have hnx : w1.heap.size ≠ b := by omega
      clear h1 hk1 R1 RS1 HN HK RB RSo
      have hrl := A1.out.len
      have hsm := A1.out.1.small
      go_wp2_with fail
      refine (leftd_any b s r _ A1.out).mono ?_
      rintro e w2 ⟨rfl, n2, rfl⟩
      have HT := hide (take_ok b s r r.length _ (A1.out.drewN n2) (Nat.le_refl _) hs)
      rw [List.take_length, List.drop_length] at HT
      have hsz : (ByteArray.mk r.toArray).size = r.length := size_mk r
      have hrl' : ((r.length : Nat) : Int) ≤ 281474976710656 := by omega
      have HSZ : Hid ((ByteArray.mk r.toArray).size ≤ maxLen) := by rw [Hid, hsz]; omega
      go_wp2_with fail
      clear hsz
      generalize ByteArray.mk r.toArray = TX at *
      refine HT.out.mono ?_
      rintro e w3 ⟨rfl, hA3, hk3⟩
      have A3 := hide hA3
      have kk : Kept (one b) (w1.alloc (.cells #[.int .i64 1, .string ⟨#[]⟩, .slice none 0 0, .slice none 0 0, .slice none 0 0] 28)) w3 := ((Kept.refl (one b) _).drewN n2).trans hk3
      have X3 := hide (X1.out.kept kk hnx)
      have XS3 := hide (XS1.out.kept kk hz2 hnx)
      have R3 := hide (R2.out.kept kk hne)
      have RS3 := hide (RS2.out.kept kk R2.out.lt hne)
      have K3 := hide (K1.out.trans kk)
      clear hA3 HT A1 X1 XS1 R2 RS2 K1 hk3 kk
      obtain ⟨x0, x1, x2, x3, x4, xlt⟩ := X3.out
      have xf := XS3.out 1
      go_wp2_with fail
      have A4 := hide (A3.out.setOther (g := w1.heap.size) (o := 1) hnx (.string TX))
      have K4 := hide (K3.out.setNew (g := w1.heap.size) (o := 1) (Nat.le_of_lt hz1) (.string TX))
      have Q4 : Hid (Kept (one w1.heap.size) w3 (w3.setCell ⟨w1.heap.size, 1, none⟩ (.string TX))) := (Kept.refl _ _).set1 _ _
      have X4 : Hid (BoxAt (w3.setCell ⟨w1.heap.size, 1, none⟩ (.string TX)) w1.heap.size (.int .i64 1) (.string TX) (.slice none 0 0) (.slice none 0 0) (.slice none 0 0)) := ⟨(World.cell?_setCell_other _ _ _ _ (by simp)).trans x0, World.cell?_setCell_same _ _ _ x1, (World.cell?_setCell_other _ _ _ _ (by simp)).trans x2, (World.cell?_setCell_other _ _ _ _ (by simp)).trans x3, (World.cell?_setCell_other _ _ _ _ (by simp)).trans x4, by simpa using xlt⟩
      have R4 := hide (R3.out.kept Q4.out (by omega))
      have RS4 := hide (RS3.out.kept Q4.out R3.out.lt (by omega))
      clear x0 x1 x2 x3 x4 xlt xf A3 K3 X3 XS3 R3 RS3
      generalize hW4 : World.setCell w3 _ _ = W4 at *
      clear hW4
      refine (done_nil b s W4 A4.out).mono ?_
      rintro e w5 ⟨rfl, n5, rfl⟩
      obtain ⟨x0, x1, x2, x3, x4, xlt⟩ := X4.out
      obtain ⟨r0, r1, r2, r3, r4, rlt⟩ := R4.out
      have g0 := RS4.out 0
      have g1 := RS4.out 1
      have g2 := RS4.out 2
      have g3 := RS4.out 3
      have g4 := RS4.out 4
      have ne5 : w1.heap.size ≠ w.heap.size := by omega
      have ne6 : w.heap.size ≠ w1.heap.size := by omega
      go_wp2_with fail
      refine bodyPost_ret (v := .agg #[.int .i64 1, .string TX, .slice none 0 0, .slice none 0 0, .slice none 0 0]) (by simp [results, Tryz.results127, go_sem, r0, r1, r2, r3, r4]) rfl ⟨?_, fun hx => ?_, fun x hx => ?_⟩
      · exact ((((((K4.out.drewN n5).setNew (Nat.le_refl _) _).setNew (Nat.le_refl _) _).setNew (Nat.le_refl _) _).setNew (Nat.le_refl _) _).setNew (Nat.le_refl _) _)
      · rw [HP.out] at hx; cases hx
      · rw [HP.out] at hx
        injection hx with hx
        subst hx
        exact ⟨_, rfl, fun W _ => ⟨⟨none, 0, none, 0, none, 0, rfl, .inl rfl, .inl rfl, .inl rfl⟩, HSZ.out, by simp, by simp, by simp, by simp, by simp, by simp⟩⟩
    by_cases k2 : c.toNat = 2
    · have HP : Hid (pItem (c :: r) = (whole (pEach pText r)).map fun x => ⟨2, ⟨#[]⟩, x, [], []⟩) := by rw [Hid, pItem, if_neg (by omega), if_pos k2]
      rw [k2] at HN
      generalize pItem (c :: r) = PI at *
      clear hc k2
      go_enter Tryz.func127, Tryz.ntmps127
      go_wp2_with fail
      refine HN.out.mono ?_
      rintro e w1 ⟨rfl, h1, hk1⟩
      have hz1 : w.heap.size < w1.heap.size := by have := hk1.size; simp at this; omega
      have R1 := hide (RB.out.kept hk1 hne)
      have RS1 := hide (RSo.out.kept hk1 RB.out.lt hne)
      have A1 := hide (h1.alloc (.cells #[.int .i64 2, .string ⟨#[]⟩, .slice none 0 0, .slice none 0 0, .slice none 0 0] 28))
      have X1 := hide (BoxAt.new w1 (.int .i64 2) (.string ⟨#[]⟩) (.slice none 0 0) (.slice none 0 0) (.slice none 0 0) 28)
      have XS1 : Hid (SoftB (w1.alloc (.cells #[.int .i64 2, .string ⟨#[]⟩, .slice none 0 0, .slice none 0 0, .slice none 0 0] 28)) w1.heap.size) := fun j => by simp [go_sem]
      have K1 := hide ((HK.out.trans hk1).alloc (.cells #[.int .i64 2, .string ⟨#[]⟩, .slice none 0 0, .slice none 0 0, .slice none 0 0] 28))
      have R2 := hide (R1.out.alloc (.cells #[.int .i64 2, .string ⟨#[]⟩, .slice none 0 0, .slice none 0 0, .slice none 0 0] 28))
      have RS2 : Hid (SoftB (w1.alloc (.cells #[.int .i64 2, .string ⟨#[]⟩, .slice none 0 0, .slice none 0 0, .slice none 0 0] 28)) w.heap.size) := fun j => by
        have := RS1.out j
        simpa using (((Below.refl w1.heap.size w1).alloc (Nat.le_refl _) (.cells #[.int .i64 2, .string ⟨#[]⟩, .slice none 0 0, .slice none 0 0, .slice none 0 0] 28)).frozen (p := ⟨w.heap.size, j, none⟩) hz1).trans this
      have hz2 : w1.heap.size < (w1.alloc (.cells #[.int .i64 2, .string ⟨#[]⟩, .slice none 0 0, .slice none 0 0, .slice none 0 0] 28)).heap.size := by simp
      have hnx : w1.heap.size ≠ b := by omega
      clear h1 hk1 R1 RS1 HN HK RB RSo
      go_wp2_with fail
      have HE := hide (each_t b s r _ A1.out hs)
      refine HE.out.mono ?_
      rintro e w3 ⟨hk3, he1, he2⟩
      cases hp : pEach pText r with
      | none =>
        obtain rfl := he1 hp
        refine ⟨rfl, K1.out.trans hk3, fun _ => ⟨8, by decide, rfl⟩, fun x hx => ?_⟩
        rw [HP.out, hp] at hx
        cases hx
      | some y =>
        obtain ⟨xs, q⟩ := y
        obtain ⟨hA3, v3, rfl, hown⟩ := he2 xs q hp
        obtain ⟨ao, cp, rfl⟩ : ∃ ao cp, v3 = .slice ao xs.length cp := by
          rcases hown.2 with ⟨rfl, h0⟩ | ⟨g, cap, cur, rfl, _⟩
          · exact ⟨none, 0, by rw [h0]⟩
          · exact ⟨_, _, rfl⟩
        have A3 := hide hA3
        have OW := hide hown
        have HPP := hide hp
        have X3 := hide (X1.out.kept hk3 hnx)
        have XS3 := hide (XS1.out.kept hk3 hz2 hnx)
        have R3 := hide (R2.out.kept hk3 hne)
        have RS3 := hide (RS2.out.kept hk3 R2.out.lt hne)
        have K3 := hide (K1.out.trans hk3)
        have z3 := hk3.size
        simp only [World.size_alloc] at z3
        clear hA3 hown he1 he2 hp HE A1 X1 XS1 R2 RS2 K1 hk3
        obtain ⟨x0, x1, x2, x3, x4, xlt⟩ := X3.out
        have xf := XS3.out 2
        go_wp2_with fail
        have A4 := hide (A3.out.setOther (g := w1.heap.size) (o := 2) hnx (.slice ao xs.length cp))
        have K4 := hide (K3.out.setNew (g := w1.heap.size) (o := 2) (Nat.le_of_lt hz1) (.slice ao xs.length cp))
        have Q4 : Hid (Kept (one w1.heap.size) w3 (w3.setCell ⟨w1.heap.size, 2, none⟩ (.slice ao xs.length cp))) := (Kept.refl _ _).set1 _ _
        have X4 : Hid (BoxAt (w3.setCell ⟨w1.heap.size, 2, none⟩ (.slice ao xs.length cp)) w1.heap.size (.int .i64 2) (.string ⟨#[]⟩) (.slice ao xs.length cp) (.slice none 0 0) (.slice none 0 0)) := ⟨(World.cell?_setCell_other _ _ _ _ (by simp)).trans x0, (World.cell?_setCell_other _ _ _ _ (by simp)).trans x1, World.cell?_setCell_same _ _ _ x2, (World.cell?_setCell_other _ _ _ _ (by simp)).trans x3, (World.cell?_setCell_other _ _ _ _ (by simp)).trans x4, by simpa using xlt⟩
        have R4 := hide (R3.out.kept Q4.out (by omega))
        have RS4 := hide (RS3.out.kept Q4.out R3.out.lt (by omega))
        clear x0 x1 x2 x3 x4 xlt xf A3 K3 X3 XS3 R3 RS3
        generalize hW4 : World.setCell w3 _ _ = W4 at *
        clear hW4
        cases q with
        | cons c2 q2 =>
          refine (done_cons b s c2 q2 W4 A4.out).mono ?_
          rintro e w5 ⟨rfl, n5, rfl⟩
          go_wp2_with fail
          refine (giveUp_any 1 _).mono ?_
          rintro e w6 ⟨rfl, rfl⟩
          refine ⟨rfl, K4.out.drewN n5, fun _ => ⟨1, by decide, rfl⟩, fun x hx => ?_⟩
          rw [HP.out, HPP.out] at hx
          cases hx
        | nil =>
          refine (done_nil b s W4 A4.out).mono ?_
          rintro e w5 ⟨rfl, n5, rfl⟩
          obtain ⟨x0, x1, x2, x3, x4, xlt⟩ := X4.out
          obtain ⟨r0, r1, r2, r3, r4, rlt⟩ := R4.out
          have g0 := RS4.out 0
          have g1 := RS4.out 1
          have g2 := RS4.out 2
          have g3 := RS4.out 3
          have g4 := RS4.out 4
          have ne5 : w1.heap.size ≠ w.heap.size := by omega
          have ne6 : w.heap.size ≠ w1.heap.size := by omega
          go_wp2_with fail
          refine bodyPost_ret (v := .agg #[.int .i64 2, .string ⟨#[]⟩, .slice ao xs.length cp, .slice none 0 0, .slice none 0 0]) (by simp [results, Tryz.results127, go_sem, r0, r1, r2, r3, r4]) rfl ⟨?_, fun hx => ?_, fun x hx => ?_⟩
          · exact ((((((K4.out.drewN n5).setNew (Nat.le_refl _) _).setNew (Nat.le_refl _) _).setNew (Nat.le_refl _) _).setNew (Nat.le_refl _) _).setNew (Nat.le_refl _) _)
          · rw [HP.out, HPP.out] at hx; cases hx
          · rw [HP.out, HPP.out] at hx
            simp only [whole, Option.map_some] at hx
            injection hx with hx
            subst hx
            refine ⟨_, rfl, fun W hW => ?_⟩
            have ST : StaysF (w1.alloc (.cells #[.int .i64 2, .string ⟨#[]⟩, .slice none 0 0, .slice none 0 0, .slice none 0 0] 28)).heap.size w3 W := fun g o u hg hu hfz => by
              rw [World.size_alloc] at hg
              exact hW g o u (by omega) ((five_off _ _ _ _ _ _ _ g o (by omega)).trans (Q4.out.cell' (p := ⟨g, o, none⟩) hu (by simp only [one]; omega))) (by have hq := (Q4.out.frozenK (p := ⟨g, o, none⟩) hu (by simp only [one]; omega)).trans hfz; simpa using hq)
            have hlen := pEach_len HPP.out
            exact ⟨⟨ao, cp, none, 0, none, 0, rfl, textsd_fromF OW.out ST, .inl rfl, .inl rfl⟩, (show (0 : Nat) ≤ maxLen by simp), (fun t ht => Nat.le_trans (pEach_all (P := fun t => t.size ≤ 255) (fun _ _ _ h => pText_size h) HPP.out t ht) (by unfold maxLen; omega)), by simp, by simp, (by simp only; omega), by simp, by simp⟩
    by_cases k3 : c.toNat = 3
    · have HP : Hid (pItem (c :: r) = (whole (pEach pText r)).map fun x => ⟨3, ⟨#[]⟩, x, [], []⟩) := by rw [Hid, pItem, if_neg (by omega), if_neg (by omega), if_pos k3]
      rw [k3] at HN
      generalize pItem (c :: r) = PI at *
      clear hc k3
      go_enter Tryz.func127, Tryz.ntmps127
      go_wp2_with fail
      refine HN.out.mono ?_
      rintro e w1 ⟨rfl, h1, hk1⟩
      have hz1 : w.heap.size < w1.heap.size := by have := hk1.size; simp at this; omega
      have R1 := hide (RB.out.kept hk1 hne)
      have RS1 := hide (RSo.out.kept hk1 RB.out.lt hne)
      have A1 := hide (h1.alloc (.cells #[.int .i64 3, .string ⟨#[]⟩, .slice none 0 0, .slice none 0 0, .slice none 0 0] 28))
      have X1 := hide (BoxAt.new w1 (.int .i64 3) (.string ⟨#[]⟩) (.slice none 0 0) (.slice none 0 0) (.slice none 0 0) 28)
      have XS1 : Hid (SoftB (w1.alloc (.cells #[.int .i64 3, .string ⟨#[]⟩, .slice none 0 0, .slice none 0 0, .slice none 0 0] 28)) w1.heap.size) := fun j => by simp [go_sem]
      have K1 := hide ((HK.out.trans hk1).alloc (.cells #[.int .i64 3, .string ⟨#[]⟩, .slice none 0 0, .slice none 0 0, .slice none 0 0] 28))
      have R2 := hide (R1.out.alloc (.cells #[.int .i64 3, .string ⟨#[]⟩, .slice none 0 0, .slice none 0 0, .slice none 0 0] 28))
      have RS2 : Hid (SoftB (w1.alloc (.cells #[.int .i64 3, .string ⟨#[]⟩, .slice none 0 0, .slice none 0 0, .slice none 0 0] 28)) w.heap.size) := fun j => by
        have := RS1.out j
        simpa using (((Below.refl w1.heap.size w1).alloc (Nat.le_refl _) (.cells #[.int .i64 3, .string ⟨#[]⟩, .slice none 0 0, .slice none 0 0, .slice none 0 0] 28)).frozen (p := ⟨w.heap.size, j, none⟩) hz1).trans this
      have hz2 : w1.heap.size < (w1.alloc (.cells #[.int .i64 3, .string ⟨#[]⟩, .slice none 0 0, .slice none 0 0, .slice none 0 0] 28)).heap.size := by simp
      have hnx : w1.heap.size ≠ b := by omega
      clear h1 hk1 R1 RS1 HN HK RB RSo
      go_wp2_with fail
      have HE := hide (each_t b s r _ A1.out hs)
      refine HE.out.mono ?_
      rintro e w3 ⟨hk3, he1, he2⟩
      cases hp : pEach pText r with
      | none =>
        obtain rfl := he1 hp
        refine ⟨rfl, K1.out.trans hk3, fun _ => ⟨8, by decide, rfl⟩, fun x hx => ?_⟩
        rw [HP.out, hp] at hx
        cases hx
      | some y =>
        obtain ⟨xs, q⟩ := y
        obtain ⟨hA3, v3, rfl, hown⟩ := he2 xs q hp
        obtain ⟨ao, cp, rfl⟩ : ∃ ao cp, v3 = .slice ao xs.length cp := by
          rcases hown.2 with ⟨rfl, h0⟩ | ⟨g, cap, cur, rfl, _⟩
          · exact ⟨none, 0, by rw [h0]⟩
          · exact ⟨_, _, rfl⟩
        have A3 := hide hA3
        have OW := hide hown
        have HPP := hide hp
        have X3 := hide (X1.out.kept hk3 hnx)
        have XS3 := hide (XS1.out.kept hk3 hz2 hnx)
        have R3 := hide (R2.out.kept hk3 hne)
        have RS3 := hide (RS2.out.kept hk3 R2.out.lt hne)
        have K3 := hide (K1.out.trans hk3)
        have z3 := hk3.size
        simp only [World.size_alloc] at z3
        clear hA3 hown he1 he2 hp HE A1 X1 XS1 R2 RS2 K1 hk3
        obtain ⟨x0, x1, x2, x3, x4, xlt⟩ := X3.out
        have xf := XS3.out 2
        go_wp2_with fail
        have A4 := hide (A3.out.setOther (g := w1.heap.size) (o := 2) hnx (.slice ao xs.length cp))
        have K4 := hide (K3.out.setNew (g := w1.heap.size) (o := 2) (Nat.le_of_lt hz1) (.slice ao xs.length cp))
        have Q4 : Hid (Kept (one w1.heap.size) w3 (w3.setCell ⟨w1.heap.size, 2, none⟩ (.slice ao xs.length cp))) := (Kept.refl _ _).set1 _ _
        have X4 : Hid (BoxAt (w3.setCell ⟨w1.heap.size, 2, none⟩ (.slice ao xs.length cp)) w1.heap.size (.int .i64 3) (.string ⟨#[]⟩) (.slice ao xs.length cp) (.slice none 0 0) (.slice none 0 0)) := ⟨(World.cell?_setCell_other _ _ _ _ (by simp)).trans x0, (World.cell?_setCell_other _ _ _ _ (by simp)).trans x1, World.cell?_setCell_same _ _ _ x2, (World.cell?_setCell_other _ _ _ _ (by simp)).trans x3, (World.cell?_setCell_other _ _ _ _ (by simp)).trans x4, by simpa using xlt⟩
        have R4 := hide (R3.out.kept Q4.out (by omega))
        have RS4 := hide (RS3.out.kept Q4.out R3.out.lt (by omega))
        clear x0 x1 x2 x3 x4 xlt xf A3 K3 X3 XS3 R3 RS3
        generalize hW4 : World.setCell w3 _ _ = W4 at *
        clear hW4
        cases q with
        | cons c2 q2 =>
          refine (done_cons b s c2 q2 W4 A4.out).mono ?_
          rintro e w5 ⟨rfl, n5, rfl⟩
          go_wp2_with fail
          refine (giveUp_any 1 _).mono ?_
          rintro e w6 ⟨rfl, rfl⟩
          refine ⟨rfl, K4.out.drewN n5, fun _ => ⟨1, by decide, rfl⟩, fun x hx => ?_⟩
          rw [HP.out, HPP.out] at hx
          cases hx
        | nil =>
          refine (done_nil b s W4 A4.out).mono ?_
          rintro e w5 ⟨rfl, n5, rfl⟩
          obtain ⟨x0, x1, x2, x3, x4, xlt⟩ := X4.out
          obtain ⟨r0, r1, r2, r3, r4, rlt⟩ := R4.out
          have g0 := RS4.out 0
          have g1 := RS4.out 1
          have g2 := RS4.out 2
          have g3 := RS4.out 3
          have g4 := RS4.out 4
          have ne5 : w1.heap.size ≠ w.heap.size := by omega
          have ne6 : w.heap.size ≠ w1.heap.size := by omega
          go_wp2_with fail
          refine bodyPost_ret (v := .agg #[.int .i64 3, .string ⟨#[]⟩, .slice ao xs.length cp, .slice none 0 0, .slice none 0 0]) (by simp [results, Tryz.results127, go_sem, r0, r1, r2, r3, r4]) rfl ⟨?_, fun hx => ?_, fun x hx => ?_⟩
          · exact ((((((K4.out.drewN n5).setNew (Nat.le_refl _) _).setNew (Nat.le_refl _) _).setNew (Nat.le_refl _) _).setNew (Nat.le_refl _) _).setNew (Nat.le_refl _) _)
          · rw [HP.out, HPP.out] at hx; cases hx
          · rw [HP.out, HPP.out] at hx
            simp only [whole, Option.map_some] at hx
            injection hx with hx
            subst hx
            refine ⟨_, rfl, fun W hW => ?_⟩
            have ST : StaysF (w1.alloc (.cells #[.int .i64 3, .string ⟨#[]⟩, .slice none 0 0, .slice none 0 0, .slice none 0 0] 28)).heap.size w3 W := fun g o u hg hu hfz => by
              rw [World.size_alloc] at hg
              exact hW g o u (by omega) ((five_off _ _ _ _ _ _ _ g o (by omega)).trans (Q4.out.cell' (p := ⟨g, o, none⟩) hu (by simp only [one]; omega))) (by have hq := (Q4.out.frozenK (p := ⟨g, o, none⟩) hu (by simp only [one]; omega)).trans hfz; simpa using hq)
            have hlen := pEach_len HPP.out
            exact ⟨⟨ao, cp, none, 0, none, 0, rfl, textsd_fromF OW.out ST, .inl rfl, .inl rfl⟩, (show (0 : Nat) ≤ maxLen by simp), (fun t ht => Nat.le_trans (pEach_all (P := fun t => t.size ≤ 255) (fun _ _ _ h => pText_size h) HPP.out t ht) (by unfold maxLen; omega)), by simp, by simp, (by simp only; omega), by simp, by simp⟩
    by_cases k4 : c.toNat = 4
    · have HP : Hid (pItem (c :: r) = (whole (pEach ppair r)).map fun x => ⟨4, ⟨#[]⟩, [], x, []⟩) := by rw [Hid, pItem, if_neg (by omega), if_neg (by omega), if_neg (by omega), if_pos k4]
      rw [k4] at HN
      generalize pItem (c :: r) = PI at *
      clear hc k4
      go_enter Tryz.func127, Tryz.ntmps127
      go_wp2_with fail
      refine HN.out.mono ?_
      rintro e w1 ⟨rfl, h1, hk1⟩
      have hz1 : w.heap.size < w1.heap.size := by have := hk1.size; simp at this; omega
      have R1 := hide (RB.out.kept hk1 hne)
      have RS1 := hide (RSo.out.kept hk1 RB.out.lt hne)
      have A1 := hide (h1.alloc (.cells #[.int .i64 4, .string ⟨#[]⟩, .slice none 0 0, .slice none 0 0, .slice none 0 0] 28))
      have X1 := hide (BoxAt.new w1 (.int .i64 4) (.string ⟨#[]⟩) (.slice none 0 0) (.slice none 0 0) (.slice none 0 0) 28)
      have XS1 : Hid (SoftB (w1.alloc (.cells #[.int .i64 4, .string ⟨#[]⟩, .slice none 0 0, .slice none 0 0, .slice none 0 0] 28)) w1.heap.size) := fun j => by simp [go_sem]
      have K1 := hide ((HK.out.trans hk1).alloc (.cells #[.int .i64 4, .string ⟨#[]⟩, .slice none 0 0, .slice none 0 0, .slice none 0 0] 28))
      have R2 := hide (R1.out.alloc (.cells #[.int .i64 4, .string ⟨#[]⟩, .slice none 0 0, .slice none 0 0, .slice none 0 0] 28))
      have RS2 : Hid (SoftB (w1.alloc (.cells #[.int .i64 4, .string ⟨#[]⟩, .slice none 0 0, .slice none 0 0, .slice none 0 0] 28)) w.heap.size) := fun j => by
        have := RS1.out j
        simpa using (((Below.refl w1.heap.size w1).alloc (Nat.le_refl _) (.cells #[.int .i64 4, .string ⟨#[]⟩, .slice none 0 0, .slice none 0 0, .slice none 0 0] 28)).frozen (p := ⟨w.heap.size, j, none⟩) hz1).trans this
      have hz2 : w1.heap.size < (w1.alloc (.cells #[.int .i64 4, .string ⟨#[]⟩, .slice none 0 0, .slice none 0 0, .slice none 0 0] 28)).heap.size := by simp
      have hnx : w1.heap.size ≠ b := by omega
      clear h1 hk1 R1 RS1 HN HK RB RSo
      go_wp2_with fail
      have HE := hide (each_p b s r _ A1.out hs)
      refine HE.out.mono ?_
      rintro e w3 ⟨hk3, he1, he2⟩
      cases hp : pEach ppair r with
      | none =>
        obtain rfl := he1 hp
        refine ⟨rfl, K1.out.trans hk3, fun _ => ⟨8, by decide, rfl⟩, fun x hx => ?_⟩
        rw [HP.out, hp] at hx
        cases hx
      | some y =>
        obtain ⟨xs, q⟩ := y
        obtain ⟨hA3, v3, rfl, hown⟩ := he2 xs q hp
        obtain ⟨ao, cp, rfl⟩ : ∃ ao cp, v3 = .slice ao xs.length cp := by
          rcases hown.2 with ⟨rfl, h0⟩ | ⟨g, cap, cur, rfl, _⟩
          · exact ⟨none, 0, by rw [h0]⟩
          · exact ⟨_, _, rfl⟩
        have A3 := hide hA3
        have OW := hide hown
        have HPP := hide hp
        have X3 := hide (X1.out.kept hk3 hnx)
        have XS3 := hide (XS1.out.kept hk3 hz2 hnx)
        have R3 := hide (R2.out.kept hk3 hne)
        have RS3 := hide (RS2.out.kept hk3 R2.out.lt hne)
        have K3 := hide (K1.out.trans hk3)
        have z3 := hk3.size
        simp only [World.size_alloc] at z3
        clear hA3 hown he1 he2 hp HE A1 X1 XS1 R2 RS2 K1 hk3
        obtain ⟨x0, x1, x2, x3, x4, xlt⟩ := X3.out
        have xf := XS3.out 3
        go_wp2_with fail
        have A4 := hide (A3.out.setOther (g := w1.heap.size) (o := 3) hnx (.slice ao xs.length cp))
        have K4 := hide (K3.out.setNew (g := w1.heap.size) (o := 3) (Nat.le_of_lt hz1) (.slice ao xs.length cp))
        have Q4 : Hid (Kept (one w1.heap.size) w3 (w3.setCell ⟨w1.heap.size, 3, none⟩ (.slice ao xs.length cp))) := (Kept.refl _ _).set1 _ _
        have X4 : Hid (BoxAt (w3.setCell ⟨w1.heap.size, 3, none⟩ (.slice ao xs.length cp)) w1.heap.size (.int .i64 4) (.string ⟨#[]⟩) (.slice none 0 0) (.slice ao xs.length cp) (.slice none 0 0)) := ⟨(World.cell?_setCell_other _ _ _ _ (by simp)).trans x0, (World.cell?_setCell_other _ _ _ _ (by simp)).trans x1, (World.cell?_setCell_other _ _ _ _ (by simp)).trans x2, World.cell?_setCell_same _ _ _ x3, (World.cell?_setCell_other _ _ _ _ (by simp)).trans x4, by simpa using xlt⟩
        have R4 := hide (R3.out.kept Q4.out (by omega))
        have RS4 := hide (RS3.out.kept Q4.out R3.out.lt (by omega))
        clear x0 x1 x2 x3 x4 xlt xf A3 K3 X3 XS3 R3 RS3
        generalize hW4 : World.setCell w3 _ _ = W4 at *
        clear hW4
        cases q with
        | cons c2 q2 =>
          refine (done_cons b s c2 q2 W4 A4.out).mono ?_
          rintro e w5 ⟨rfl, n5, rfl⟩
          go_wp2_with fail
          refine (giveUp_any 1 _).mono ?_
          rintro e w6 ⟨rfl, rfl⟩
          refine ⟨rfl, K4.out.drewN n5, fun _ => ⟨1, by decide, rfl⟩, fun x hx => ?_⟩
          rw [HP.out, HPP.out] at hx
          cases hx
        | nil =>
          refine (done_nil b s W4 A4.out).mono ?_
          rintro e w5 ⟨rfl, n5, rfl⟩
          obtain ⟨x0, x1, x2, x3, x4, xlt⟩ := X4.out
          obtain ⟨r0, r1, r2, r3, r4, rlt⟩ := R4.out
          have g0 := RS4.out 0
          have g1 := RS4.out 1
          have g2 := RS4.out 2
          have g3 := RS4.out 3
          have g4 := RS4.out 4
          have ne5 : w1.heap.size ≠ w.heap.size := by omega
          have ne6 : w.heap.size ≠ w1.heap.size := by omega
          go_wp2_with fail
          refine bodyPost_ret (v := .agg #[.int .i64 4, .string ⟨#[]⟩, .slice none 0 0, .slice ao xs.length cp, .slice none 0 0]) (by simp [results, Tryz.results127, go_sem, r0, r1, r2, r3, r4]) rfl ⟨?_, fun hx => ?_, fun x hx => ?_⟩
          · exact ((((((K4.out.drewN n5).setNew (Nat.le_refl _) _).setNew (Nat.le_refl _) _).setNew (Nat.le_refl _) _).setNew (Nat.le_refl _) _).setNew (Nat.le_refl _) _)
          · rw [HP.out, HPP.out] at hx; cases hx
          · rw [HP.out, HPP.out] at hx
            simp only [whole, Option.map_some] at hx
            injection hx with hx
            subst hx
            refine ⟨_, rfl, fun W hW => ?_⟩
            have ST : StaysF (w1.alloc (.cells #[.int .i64 4, .string ⟨#[]⟩, .slice none 0 0, .slice none 0 0, .slice none 0 0] 28)).heap.size w3 W := fun g o u hg hu hfz => by
              rw [World.size_alloc] at hg
              exact hW g o u (by omega) ((five_off _ _ _ _ _ _ _ g o (by omega)).trans (Q4.out.cell' (p := ⟨g, o, none⟩) hu (by simp only [one]; omega))) (by have hq := (Q4.out.frozenK (p := ⟨g, o, none⟩) hu (by simp only [one]; omega)).trans hfz; simpa using hq)
            have hlen := pEach_len HPP.out
            exact ⟨⟨none, 0, ao, cp, none, 0, rfl, .inl rfl, pairsd_fromF OW.out ST, .inl rfl⟩, (show (0 : Nat) ≤ maxLen by simp), by simp, (fun t ht => by have := pEach_all (P := fun t : ByteArray × ByteArray => t.1.size ≤ 255 ∧ t.2.size ≤ 255) (fun _ _ _ h => ppair_size h) HPP.out t ht; unfold maxLen; omega), by simp, by simp, (by simp only; omega), by simp⟩
    by_cases k5 : c.toNat = 5
    · have HP : Hid (pItem (c :: r) = (whole (pEach pscore r)).map fun x => ⟨5, ⟨#[]⟩, [], [], x⟩) := by rw [Hid, pItem, if_neg (by omega), if_neg (by omega), if_neg (by omega), if_neg (by omega), if_pos k5]
      rw [k5] at HN
      generalize pItem (c :: r) = PI at *
      clear hc k5
      go_enter Tryz.func127, Tryz.ntmps127
      go_wp2_with fail
      refine HN.out.mono ?_
      rintro e w1 ⟨rfl, h1, hk1⟩
      have hz1 : w.heap.size < w1.heap.size := by have := hk1.size; simp at this; omega
      have R1 := hide (RB.out.kept hk1 hne)
      have RS1 := hide (RSo.out.kept hk1 RB.out.lt hne)
      have A1 := hide (h1.alloc (.cells #[.int .i64 5, .string ⟨#[]⟩, .slice none 0 0, .slice none 0 0, .slice none 0 0] 28))
      have X1 := hide (BoxAt.new w1 (.int .i64 5) (.string ⟨#[]⟩) (.slice none 0 0) (.slice none 0 0) (.slice none 0 0) 28)
      have XS1 : Hid (SoftB (w1.alloc (.cells #[.int .i64 5, .string ⟨#[]⟩, .slice none 0 0, .slice none 0 0, .slice none 0 0] 28)) w1.heap.size) := fun j => by simp [go_sem]
      have K1 := hide ((HK.out.trans hk1).alloc (.cells #[.int .i64 5, .string ⟨#[]⟩, .slice none 0 0, .slice none 0 0, .slice none 0 0] 28))
      have R2 := hide (R1.out.alloc (.cells #[.int .i64 5, .string ⟨#[]⟩, .slice none 0 0, .slice none 0 0, .slice none 0 0] 28))
      have RS2 : Hid (SoftB (w1.alloc (.cells #[.int .i64 5, .string ⟨#[]⟩, .slice none 0 0, .slice none 0 0, .slice none 0 0] 28)) w.heap.size) := fun j => by
        have := RS1.out j
        simpa using (((Below.refl w1.heap.size w1).alloc (Nat.le_refl _) (.cells #[.int .i64 5, .string ⟨#[]⟩, .slice none 0 0, .slice none 0 0, .slice none 0 0] 28)).frozen (p := ⟨w.heap.size, j, none⟩) hz1).trans this
      have hz2 : w1.heap.size < (w1.alloc (.cells #[.int .i64 5, .string ⟨#[]⟩, .slice none 0 0, .slice none 0 0, .slice none 0 0] 28)).heap.size := by simp
      have hnx : w1.heap.size ≠ b := by omega
      clear h1 hk1 R1 RS1 HN HK RB RSo
      go_wp2_with fail
      have HE := hide (each_s b s r _ A1.out hs)
      refine HE.out.mono ?_
      rintro e w3 ⟨hk3, he1, he2⟩
      cases hp : pEach pscore r with
      | none =>
        obtain rfl := he1 hp
        refine ⟨rfl, K1.out.trans hk3, fun _ => ⟨8, by decide, rfl⟩, fun x hx => ?_⟩
        rw [HP.out, hp] at hx
        cases hx
      | some y =>
        obtain ⟨xs, q⟩ := y
        obtain ⟨hA3, v3, rfl, hown⟩ := he2 xs q hp
        obtain ⟨ao, cp, rfl⟩ : ∃ ao cp, v3 = .slice ao xs.length cp := by
          rcases hown.2 with ⟨rfl, h0⟩ | ⟨g, cap, cur, rfl, _⟩
          · exact ⟨none, 0, by rw [h0]⟩
          · exact ⟨_, _, rfl⟩
        have A3 := hide hA3
        have OW := hide hown
        have HPP := hide hp
        have X3 := hide (X1.out.kept hk3 hnx)
        have XS3 := hide (XS1.out.kept hk3 hz2 hnx)
        have R3 := hide (R2.out.kept hk3 hne)
        have RS3 := hide (RS2.out.kept hk3 R2.out.lt hne)
        have K3 := hide (K1.out.trans hk3)
        have z3 := hk3.size
        simp only [World.size_alloc] at z3
        clear hA3 hown he1 he2 hp HE A1 X1 XS1 R2 RS2 K1 hk3
        obtain ⟨x0, x1, x2, x3, x4, xlt⟩ := X3.out
        have xf := XS3.out 4
        go_wp2_with fail
        have A4 := hide (A3.out.setOther (g := w1.heap.size) (o := 4) hnx (.slice ao xs.length cp))
        have K4 := hide (K3.out.setNew (g := w1.heap.size) (o := 4) (Nat.le_of_lt hz1) (.slice ao xs.length cp))
        have Q4 : Hid (Kept (one w1.heap.size) w3 (w3.setCell ⟨w1.heap.size, 4, none⟩ (.slice ao xs.length cp))) := (Kept.refl _ _).set1 _ _
        have X4 : Hid (BoxAt (w3.setCell ⟨w1.heap.size, 4, none⟩ (.slice ao xs.length cp)) w1.heap.size (.int .i64 5) (.string ⟨#[]⟩) (.slice none 0 0) (.slice none 0 0) (.slice ao xs.length cp)) := ⟨(World.cell?_setCell_other _ _ _ _ (by simp)).trans x0, (World.cell?_setCell_other _ _ _ _ (by simp)).trans x1, (World.cell?_setCell_other _ _ _ _ (by simp)).trans x2, (World.cell?_setCell_other _ _ _ _ (by simp)).trans x3, World.cell?_setCell_same _ _ _ x4, by simpa using xlt⟩
        have R4 := hide (R3.out.kept Q4.out (by omega))
        have RS4 := hide (RS3.out.kept Q4.out R3.out.lt (by omega))
        clear x0 x1 x2 x3 x4 xlt xf A3 K3 X3 XS3 R3 RS3
        generalize hW4 : World.setCell w3 _ _ = W4 at *
        clear hW4
        cases q with
        | cons c2 q2 =>
          refine (done_cons b s c2 q2 W4 A4.out).mono ?_
          rintro e w5 ⟨rfl, n5, rfl⟩
          go_wp2_with fail
          refine (giveUp_any 1 _).mono ?_
          rintro e w6 ⟨rfl, rfl⟩
          refine ⟨rfl, K4.out.drewN n5, fun _ => ⟨1, by decide, rfl⟩, fun x hx => ?_⟩
          rw [HP.out, HPP.out] at hx
          cases hx
        | nil =>
          refine (done_nil b s W4 A4.out).mono ?_
          rintro e w5 ⟨rfl, n5, rfl⟩
          obtain ⟨x0, x1, x2, x3, x4, xlt⟩ := X4.out
          obtain ⟨r0, r1, r2, r3, r4, rlt⟩ := R4.out
          have g0 := RS4.out 0
          have g1 := RS4.out 1
          have g2 := RS4.out 2
          have g3 := RS4.out 3
          have g4 := RS4.out 4
          have ne5 : w1.heap.size ≠ w.heap.size := by omega
          have ne6 : w.heap.size ≠ w1.heap.size := by omega
          go_wp2_with fail
          refine bodyPost_ret (v := .agg #[.int .i64 5, .string ⟨#[]⟩, .slice none 0 0, .slice none 0 0, .slice ao xs.length cp]) (by simp [results, Tryz.results127, go_sem, r0, r1, r2, r3, r4]) rfl ⟨?_, fun hx => ?_, fun x hx => ?_⟩
          · exact ((((((K4.out.drewN n5).setNew (Nat.le_refl _) _).setNew (Nat.le_refl _) _).setNew (Nat.le_refl _) _).setNew (Nat.le_refl _) _).setNew (Nat.le_refl _) _)
          · rw [HP.out, HPP.out] at hx; cases hx
          · rw [HP.out, HPP.out] at hx
            simp only [whole, Option.map_some] at hx
            injection hx with hx
            subst hx
            refine ⟨_, rfl, fun W hW => ?_⟩
            have ST : StaysF (w1.alloc (.cells #[.int .i64 5, .string ⟨#[]⟩, .slice none 0 0, .slice none 0 0, .slice none 0 0] 28)).heap.size w3 W := fun g o u hg hu hfz => by
              rw [World.size_alloc] at hg
              exact hW g o u (by omega) ((five_off _ _ _ _ _ _ _ g o (by omega)).trans (Q4.out.cell' (p := ⟨g, o, none⟩) hu (by simp only [one]; omega))) (by have hq := (Q4.out.frozenK (p := ⟨g, o, none⟩) hu (by simp only [one]; omega)).trans hfz; simpa using hq)
            have hlen := pEach_len HPP.out
            exact ⟨⟨none, 0, none, 0, ao, cp, rfl, .inl rfl, .inl rfl, scoresd_fromF OW.out ST⟩, (show (0 : Nat) ≤ maxLen by simp), by simp, by simp, (fun t ht => by have := pEach_all (P := fun t : Int × ByteArray => t.2.size ≤ 255) (fun _ _ _ h => pscore_size h) HPP.out t ht; unfold maxLen; omega), by simp, by simp, (by simp only; omega)⟩
    have HP : Hid (pItem (c :: r) = none) := by rw [Hid, pItem, if_neg k1, if_neg k2, if_neg k3, if_neg k4, if_neg k5]
    generalize pItem (c :: r) = PI at *
    go_enter Tryz.func127, Tryz.ntmps127
    go_wp2_with fail
    refine HN.out.mono ?_
    rintro e w1 ⟨rfl, h1, hk1⟩
    have hz1 : w.heap.size < w1.heap.size := by have := hk1.size; simp at this; omega
    have R1 := hide (RB.out.kept hk1 hne)
    have RS1 := hide (RSo.out.kept hk1 RB.out.lt hne)
    have A1 := hide (h1.alloc (.cells #[.int .i64 ((c.toNat : Nat) : Int), .string ⟨#[]⟩, .slice none 0 0, .slice none 0 0, .slice none 0 0] 28))
    have X1 := hide (BoxAt.new w1 (.int .i64 ((c.toNat : Nat) : Int)) (.string ⟨#[]⟩) (.slice none 0 0) (.slice none 0 0) (.slice none 0 0) 28)
    have XS1 : Hid (SoftB (w1.alloc (.cells #[.int .i64 ((c.toNat : Nat) : Int), .string ⟨#[]⟩, .slice none 0 0, .slice none 0 0, .slice none 0 0] 28)) w1.heap.size) := fun j => by simp [go_sem]
    have K1 := hide ((HK.out.trans hk1).alloc (.cells #[.int .i64 ((c.toNat : Nat) : Int), .string ⟨#[]⟩, .slice none 0 0, .slice none 0 0, .slice none 0 0] 28))
    have R2 := hide (R1.out.alloc (.cells #[.int .i64 ((c.toNat : Nat) : Int), .string ⟨#[]⟩, .slice none 0 0, .slice none 0 0, .slice none 0 0] 28))
    have RS2 : Hid (SoftB (w1.alloc (.cells #[.int .i64 ((c.toNat : Nat) : Int), .string ⟨#[]⟩, .slice none 0 0, .slice none 0 0, .slice none 0 0] 28)) w.heap.size) := fun j => by
      have := RS1.out j
      simpa using (((Below.refl w1.heap.size w1).alloc (Nat.le_refl _) (.cells #[.int .i64 ((c.toNat : Nat) : Int), .string ⟨#[]⟩, .slice none 0 0, .slice none 0 0, .slice none 0 0] 28)).frozen (p := ⟨w.heap.size, j, none⟩) hz1).trans this
    have hz2 : w1.heap.size < (w1.alloc (.cells #[.int .i64 ((c.toNat : Nat) : Int), .string ⟨#[]⟩, .slice none 0 0, .slice none 0 0, .slice none 0 0] 28)).heap.size := by simp
    have hnx : w1.heap.size ≠ b := by omega
    clear h1 hk1 R1 RS1 HN HK RB RSo
    have e1 : (((c.toNat : Nat) : Int) == 1) = false := by rw [beq_eq_false_iff_ne]; omega
    have e2 : (((c.toNat : Nat) : Int) == 2) = false := by rw [beq_eq_false_iff_ne]; omega
    have e3 : (((c.toNat : Nat) : Int) == 3) = false := by rw [beq_eq_false_iff_ne]; omega
    have e4 : (((c.toNat : Nat) : Int) == 4) = false := by rw [beq_eq_false_iff_ne]; omega
    have e5 : (((c.toNat : Nat) : Int) == 5) = false := by rw [beq_eq_false_iff_ne]; omega
    have hc' : ((c.toNat : Nat) : Int) ≤ 255 := by omega
    go_wp2_with fail
    refine (giveUp_any 1 _).mono ?_
    rintro e w6 ⟨rfl, rfl⟩
    refine ⟨rfl, K1.out, fun _ => ⟨1, by decide, rfl⟩, fun x hx => ?_⟩
    rw [HP.out] at hx
    cases hx
end Go.Proofs.YtcidoodaiimhfaaGreat

/- WALKS of Run and of what it defers. -/
namespace Go.Proofs.YtcidoodaiimhfaaGreat
open Go.RowKit

theorem assertStop (W : World) (v : Value) : (Instr.typeAssert (.iface 194 v) 20 194 true).run Tryz.prog W = .ok (.tuple #[v, .bool true]) W := by kernel_rfl

theorem catch_idle (p : Addr) (w : World) :
    CallsD Tryz.prog 172 #[.pointer (some p)] .returning w fun e u' w' => e = .returned (.tuple #[]) ∧ u' = .returning ∧ w' = w := by
  refine callsD_of_wpS Tryz.func172 rfl fun c₀ cs hu => ?_
  apply wpS_seq
  apply wpS_region
  simp [wpOpsS, go_sem, recoverD, hu, Tryz.ntmps172, Exit.thenS]
  refine wpS_of_wp ?_
  have e : (#[Value.pointer (some p)] ++ ((Array.replicate 16 undef).setIfInBounds 3 Value.nilIface).setIfInBounds 0 Value.nilIface) = #[.pointer (some p), .nilIface, undef, undef, .nilIface, undef, undef, undef, undef, undef, undef, undef, undef, undef, undef, undef, undef] := rfl
  rw [e]
  clear e
  go_wp2
  cases c₀
  simp_all [bodyPostS, results, Tryz.results172]

set_option maxRecDepth 100000 in
set_option maxHeartbeats 1000000 in
theorem catch_stop (p : Addr) (x n : Int) (older : List PanicEntry) (w : World) (hc : w.cell? p = some (.int .i64 x)) (hz : w.frozen? p = false) :
    CallsD Tryz.prog 172 #[.pointer (some p)] (.panicking ({ v := .iface 194 (.agg #[.int .i64 n]), recovered := false } :: older)) w fun e u' w' =>
      e = .returned (.tuple #[]) ∧ u' = .panicking ({ v := .iface 194 (.agg #[.int .i64 n]), recovered := true } :: older) ∧ w' = (w.alloc (.cells #[.int .i64 n] 194)).setCell p (.int .i64 n) := by
  have hlt := World.block_lt_of_cell? w p hc
  refine callsD_of_wpS Tryz.func172 rfl fun c₀ cs hu => ?_
  apply wpS_seq
  apply wpS_region
  simp [wpOpsS, go_sem, recoverD, hu, Tryz.ntmps172, Exit.thenS]
  refine wpS_of_wp ?_
  have e : (#[Value.pointer (some p)] ++ ((Array.replicate 16 undef).setIfInBounds 3 (Value.iface 194 (Value.agg #[Value.int IntKind.i64 n]))).setIfInBounds 0 (Value.iface 194 (Value.agg #[Value.int IntKind.i64 n]))) = #[.pointer (some p), (Value.iface 194 (Value.agg #[Value.int IntKind.i64 n])), undef, undef, (Value.iface 194 (Value.agg #[Value.int IntKind.i64 n])), undef, undef, undef, undef, undef, undef, undef, undef, undef, undef, undef, undef] := rfl
  rw [e]
  clear e
  clear hu
  obtain ⟨Q, hQ⟩ : ∃ Q : Exit → Act → World → Prop, Q = (fun e a' w' => bodyPostS Tryz.prog Tryz.f172 c₀ cs (fun e u' w' => e = Ending.returned (Value.tuple #[]) ∧ u' = FrameMode.panicking ({ v := Value.iface 194 (Value.agg #[Value.int IntKind.i64 n]), recovered := true } :: older) ∧ w' = (w.alloc (Obj.cells #[Value.int IntKind.i64 n] 194)).setCell p (Value.int IntKind.i64 n)) e a' ({ fn := c₀.fn, tmps := c₀.tmps, todo := c₀.todo, defers := c₀.defers, mode := FrameMode.panicking ({ v := Value.iface 194 (Value.agg #[Value.int IntKind.i64 n]), recovered := true } :: older), kind := c₀.kind, roundOf := c₀.roundOf } :: cs) w') := ⟨_, rfl⟩
  rw [← hQ]
  have HQ := hide hQ
  clear hQ
  have has := assertStop
  have hz1 : (w.alloc (.cells #[.int .i64 n] 194)).frozen? p = false := (((Kept.refl (fun _ => False) w).alloc _).frozen hlt (fun e => e)).trans hz
  have hc1 : (w.alloc (.cells #[.int .i64 n] 194)).cell? p = some (.int .i64 x) := ((Kept.refl (fun _ => False) w).alloc _).cell' hc (fun e => e)
  go_wp2_with fail
  rw [HQ.out]
  simp [bodyPostS, results, Tryz.results172]

end Go.Proofs.YtcidoodaiimhfaaGreat

/- WALKS of Run over the reading of an item. -/
namespace Go.Proofs.YtcidoodaiimhfaaGreat
open Go.RowKit

/-- Run, where the walk comes to its end. -/
theorem runDec_ok (caps : Array Value) (S : Nat → Prop) (R : World → Prop) (w : World) (hS : ¬ S w.heap.size)
    (H : Calls Tryz.prog 126 caps (w.alloc (.cells #[.int .i64 0] 29)) fun e w1 => e = .returned (.tuple #[]) ∧ Kept S (w.alloc (.cells #[.int .i64 0] 29)) w1 ∧ R w1) :
    Calls Tryz.prog 125 #[.func (.func 126) #[] caps] w fun e w' => e = .returned (.int .i64 0) ∧ ∃ w1, R w1 ∧ Kept S w w1 ∧ Kept (one w.heap.size) w1 w' := by
  have hmf : ∀ (fn : Fn) (first cap : Array Value) (w : World), (Instr.makeFunc fn first cap).run Tryz.prog w = .ok (.func fn first cap) w := fun _ _ _ _ => rfl
  have HH := hide H
  clear H
  go_enter_defers Tryz.func125, Tryz.ntmps125
  go_wp2_with fail
  refine HH.out.mono ?_
  rintro e w1 ⟨rfl, hk1, hR⟩
  have hc1 : w1.cell? ⟨w.heap.size, 0, none⟩ = some (.int .i64 0) := hk1.cell' (by simp [go_sem]) hS
  have hf1 : w1.frozen? ⟨w.heap.size, 0, none⟩ = false := (hk1.frozen (p := ⟨w.heap.size, 0, none⟩) (by simp) hS).trans (by simp [go_sem])
  clear HH
  go_wp2
  refine leaves_cons (f := 172) (args := #[.pointer (some ⟨w.heap.size, 0, none⟩)]) (by simp) (by simp [go_sem]) ?_
  refine (catch_idle ⟨w.heap.size, 0, none⟩ _).mono ?_
  rintro e u' w'' ⟨rfl, rfl, rfl⟩
  have hc2 : (w1.setCell ⟨w.heap.size, 0, none⟩ (.int .i64 0)).cell? ⟨w.heap.size, 0, none⟩ = some (.int .i64 0) := World.cell?_setCell_same _ _ _ hc1
  have hk2 : Kept (one w.heap.size) w1 (w1.setCell ⟨w.heap.size, 0, none⟩ (.int .i64 0)) := (Kept.refl _ _).set1 _ _
  have hk0 : Kept S w w1 := ((Kept.refl S w).alloc _).trans hk1
  have fin : ∃ w1', R w1' ∧ Kept S w w1' ∧ Kept (one w.heap.size) w1' (w1.setCell ⟨w.heap.size, 0, none⟩ (.int .i64 0)) := ⟨w1, hR, hk0, hk2⟩
  have FIN := hide fin
  clear fin hk0 hk1 hk2 hR hmf hS
  generalize w1.setCell ⟨w.heap.size, 0, none⟩ (.int .i64 0) = w2 at *
  simp [Leaves, settle, results, Tryz.results125, go_sem, hc2]
  exact FIN.out

/-- Run, where the walk gives up. -/
theorem runDec_err (caps : Array Value) (S : Nat → Prop) (R : World → Prop) (w : World) (hS : ¬ S w.heap.size)
    (H : Calls Tryz.prog 126 caps (w.alloc (.cells #[.int .i64 0] 29)) fun e w1 => ∃ n : Int, n ≠ 0 ∧ e = .panicked [{ v := .iface 194 (.agg #[.int .i64 (n)]), recovered := false }] ∧ Kept S (w.alloc (.cells #[.int .i64 0] 29)) w1 ∧ R w1) :
    Calls Tryz.prog 125 #[.func (.func 126) #[] caps] w fun e w' => (∃ n : Int, n ≠ 0 ∧ e = .returned (.int .i64 n)) ∧ ∃ w1, R w1 ∧ Kept S w w1 ∧ Kept (one w.heap.size) w1 w' := by
  have hmf : ∀ (fn : Fn) (first cap : Array Value) (w : World), (Instr.makeFunc fn first cap).run Tryz.prog w = .ok (.func fn first cap) w := fun _ _ _ _ => rfl
  have HH := hide H
  clear H
  go_enter_defers Tryz.func125, Tryz.ntmps125
  go_wp2_with fail
  refine HH.out.mono ?_
  rintro e w1 ⟨n, hn, rfl, hk1, hR⟩
  have hc1 : w1.cell? ⟨w.heap.size, 0, none⟩ = some (.int .i64 0) := hk1.cell' (by simp [go_sem]) hS
  have hf1 : w1.frozen? ⟨w.heap.size, 0, none⟩ = false := (hk1.frozen (p := ⟨w.heap.size, 0, none⟩) (by simp) hS).trans (by simp [go_sem])
  clear HH
  refine leaves_cons (f := 172) (args := #[.pointer (some ⟨w.heap.size, 0, none⟩)]) (by simp) (by simp [go_sem]) ?_
  refine (catch_stop ⟨w.heap.size, 0, none⟩ 0 n [] _ hc1 hf1).mono ?_
  rintro e u' w'' ⟨rfl, rfl, rfl⟩
  have hk2 : Kept (one w.heap.size) w1 ((w1.alloc (.cells #[.int .i64 n] 194)).setCell ⟨w.heap.size, 0, none⟩ (.int .i64 n)) := ((Kept.refl _ _).alloc _).set1 _ _
  have hc2 : ((w1.alloc (.cells #[.int .i64 n] 194)).setCell ⟨w.heap.size, 0, none⟩ (.int .i64 n)).cell? ⟨w.heap.size, 0, none⟩ = some (.int .i64 n) :=
    World.cell?_setCell_same _ _ _ (((Kept.refl (fun _ => False) w1).alloc _).cell' hc1 (fun e => e))
  have hk0 : Kept S w w1 := ((Kept.refl S w).alloc _).trans hk1
  have fin : ∃ w1', R w1' ∧ Kept S w w1' ∧ Kept (one w.heap.size) w1' ((w1.alloc (.cells #[.int .i64 n] 194)).setCell ⟨w.heap.size, 0, none⟩ (.int .i64 n)) := ⟨w1, hR, hk0, hk2⟩
  have FIN := hide fin
  clear fin hk0 hk1 hk2 hR hmf hS
  generalize (w1.alloc (.cells #[.int .i64 n] 194)).setCell ⟨w.heap.size, 0, none⟩ (.int .i64 n) = w2 at *
  simp [Leaves, settle, results, Tryz.results125, go_sem, hc2]
  exact ⟨hn, FIN.out⟩
end Go.Proofs.YtcidoodaiimhfaaGreat

/- WALK of the function literal of Decode. -/
namespace Go.Proofs.YtcidoodaiimhfaaGreat
open Go.RowKit

theorem overD_any (s : ByteArray) (w : World) :
    Calls Tryz.prog 128 #[.string s] w fun e w' => e = .returned (.pointer (some ⟨w.heap.size, 0, none⟩)) ∧ w' = w.alloc (.cells #[.string s, .int .i64 0] 207) := by
  go_enter Tryz.func128, Tryz.ntmps128
  go_wp2
  go_ret
  exact ⟨rfl, rfl⟩
theorem over_at (s : ByteArray) (w : World) (hs : s.size ≤ maxLen) : AtL w.heap.size s s.data.toList (w.alloc (.cells #[.string s, .int .i64 0] 207)) :=
  ⟨⟨by simp [go_sem], by rw [size_list, Nat.sub_self]; simp [go_sem], by simp [go_sem], by omega, hs⟩, List.suffix_refl _⟩
theorem ItemIs.shaped {w : World} {v : Value} {x : Itm} (h : ItemIs w v x) : ∃ k t a1 n1 c1 a2 n2 c2 a3 n3 c3, v = .agg #[.int .i64 k, .string t, .slice a1 n1 c1, .slice a2 n2 c2, .slice a3 n3 c3] := by
  obtain ⟨⟨a1, c1, a2, c2, a3, c3, e, -, -, -⟩, -, -, -, -, -, -, -⟩ := h
  exact ⟨_, _, _, _, _, _, _, _, _, _, _, e⟩
theorem five_box {w : World} {b : Nat} {u0 u1 u2 u3 u4 : Value} (v0 v1 v2 v3 v4 : Value) (h : BoxAt w b u0 u1 u2 u3 u4) : BoxAt (((((w.setCell ⟨b, 0, none⟩ v0).setCell ⟨b, 1, none⟩ v1).setCell ⟨b, 2, none⟩ v2).setCell ⟨b, 3, none⟩ v3).setCell ⟨b, 4, none⟩ v4) b v0 v1 v2 v3 v4 := by
  have h0 := h.c0
  have h1 := h.c1
  have h2 := h.c2
  have h3 := h.c3
  have h4 := h.c4
  have hl := h.lt
  exact ⟨by simp [go_sem, h0], by simp [go_sem, h1], by simp [go_sem, h2], by simp [go_sem, h3], by simp [go_sem, h4], by simpa using hl⟩
/-- what is read lies in a box -/
def ReadIn (B xb : Nat) (x : Itm) (w : World) : Prop := ∃ k t a1 n1 c1 a2 n2 c2 a3 n3 c3, BoxAt w xb (.int .i64 k) (.string t) (.slice a1 n1 c1) (.slice a2 n2 c2) (.slice a3 n3 c3) ∧ ∀ W, StaysF B w W → ItemIs W (.agg #[.int .i64 k, .string t, .slice a1 n1 c1, .slice a2 n2 c2, .slice a3 n3 c3]) x
set_option maxRecDepth 100000 in
set_option maxHeartbeats 2000000 in
theorem dec1_any (sb xb : Nat) (s : ByteArray) (w : World) (hsb : w.cell? ⟨sb, 0, none⟩ = some (.string s)) (hx : BoxAt w xb (.int .i64 0) (.string ⟨#[]⟩) (.slice none 0 0) (.slice none 0 0) (.slice none 0 0)) (hxs : SoftB w xb) (hs : s.size ≤ 281474976710656) :
    Calls Tryz.prog 126 #[.pointer (some ⟨sb, 0, none⟩), .pointer (some ⟨xb, 0, none⟩)] w fun e w' => Kept (one xb) w w' ∧ (pItem s.data.toList = none → ∃ n : Int, n ≠ 0 ∧ e = .panicked [{ v := .iface 194 (.agg #[.int .i64 (n)]), recovered := false }]) ∧ ∀ x, pItem s.data.toList = some x → e = .returned (.tuple #[]) ∧ ReadIn (w.heap.size + 2) xb x w' := by
  have HD := hide (decAll_any w.heap.size s s.data.toList _ (over_at s w (by unfold maxLen; omega)) hs)
  have hxl := hx.lt
  have HX := hide hx
  have HXS := hide hxs
  clear hx hxs
  go_enter Tryz.func126, Tryz.ntmps126
  go_wp2_with fail
  refine (overD_any s w).mono ?_
  rintro e w1 ⟨rfl, rfl⟩
  go_wp2_with fail
  refine HD.out.mono ?_
  rintro e w2 ⟨hk2, he1, he2⟩
  have K2 : Kept (one xb) w w2 := ((Kept.refl (one w.heap.size) w).alloc _).trans hk2 |>.mono (fun k hk e => by simp only [one] at e; omega)
  have X2 := hide ((HX.out.alloc (.cells #[.string s, .int .i64 0] 207)).kept hk2 (by omega))
  have XS2 : Hid (SoftB w2 xb) := fun j => (hk2.frozen (p := ⟨xb, j, none⟩) (by simp; omega) (by simp only [one]; omega)).trans ((((Below.refl w.heap.size w).alloc (Nat.le_refl _) (.cells #[.string s, .int .i64 0] 207)).frozen (p := ⟨xb, j, none⟩) hxl).trans (HXS.out j))
  cases hp : pItem s.data.toList with
  | none =>
    obtain ⟨n, hn, rfl⟩ := he1 hp
    exact ⟨rfl, K2, fun _ => ⟨n, hn, rfl⟩, fun x hx => by rw [hp] at hx; cases hx⟩
  | some x =>
    obtain ⟨v, rfl, hI⟩ := he2 x hp
    have HI := hide hI
    have HPP := hide hp
    obtain ⟨k, t, a1, n1, c1, a2, n2, c2, a3, n3, c3, rfl⟩ := (hI w2 (fun _ _ _ _ h _ => h)).shaped
    obtain ⟨x0, x1, x2, x3, x4, xlt⟩ := X2.out
    have g0 := XS2.out 0
    have g1 := XS2.out 1
    have g2 := XS2.out 2
    have g3 := XS2.out 3
    have g4 := XS2.out 4
    clear hI he1 he2 hp hk2
    go_wp2_with fail
    go_end0
    refine ⟨?_, (fun hx => by rw [HPP.out] at hx; cases hx), fun y hy => ⟨rfl, ?_⟩⟩
    · exact ((((K2.set1 _ _).set1 _ _).set1 _ _).set1 _ _).set1 _ _
    · rw [HPP.out] at hy
      injection hy with hy
      subst hy
      refine ⟨k, t, a1, n1, c1, a2, n2, c2, a3, n3, c3, five_box _ _ _ _ _ X2.out, fun W hW => HI.out W (fun g o u hg hu hfz => ?_)⟩
      rw [World.size_alloc] at hg
      exact hW g o u hg ((five_off _ _ _ _ _ _ _ g o (by omega)).trans hu) (by simpa using hfz)
end Go.Proofs.YtcidoodaiimhfaaGreat

/- WALK of the decoding of items. -/
namespace Go.Proofs.YtcidoodaiimhfaaGreat
open Go.RowKit

/-- what decoding answers -/
def decE (l : List UInt8) : Int := match pItem l with
  | none => 1
  | some x => chkI x
def decI (l : List UInt8) : Itm := match pItem l with
  | none => Itm.none
  | some x => if chkI x = 0 then x else Itm.none
theorem zero_isd (w : World) : ItemIs w (.agg #[.int .i64 0, .string ⟨#[]⟩, .slice none 0 0, .slice none 0 0, .slice none 0 0]) Itm.none :=
  ⟨⟨none, 0, none, 0, none, 0, rfl, .inl rfl, .inl rfl, .inl rfl⟩, (show (0 : Nat) ≤ maxLen by simp), by simp [Itm.none], by simp [Itm.none], by simp [Itm.none], by simp [Itm.none], by simp [Itm.none], by simp [Itm.none]⟩
/-- the world in which Decode runs its reading -/
theorem begin_dec (s : ByteArray) (w W : World) (hW : W = ((w.alloc (.cells #[.string s] 9)).alloc (.cells #[.int .i64 0, .string ⟨#[]⟩, .slice none 0 0, .slice none 0 0, .slice none 0 0] 28)).alloc (.cells #[.int .i64 0, .string ⟨#[]⟩, .slice none 0 0, .slice none 0 0, .slice none 0 0] 28)) :
    W.cell? ⟨w.heap.size, 0, none⟩ = some (.string s) ∧ BoxAt W (w.heap.size + 1) (.int .i64 0) (.string ⟨#[]⟩) (.slice none 0 0) (.slice none 0 0) (.slice none 0 0) ∧ BoxAt W (w.heap.size + 2) (.int .i64 0) (.string ⟨#[]⟩) (.slice none 0 0) (.slice none 0 0) (.slice none 0 0) ∧ SoftB W (w.heap.size + 1) ∧ SoftB W (w.heap.size + 2) ∧ W.heap.size = w.heap.size + 3 ∧ Below w.heap.size w W := by
  subst hW
  refine ⟨by simp [go_sem], ⟨by simp [go_sem], by simp [go_sem], by simp [go_sem], by simp [go_sem], by simp [go_sem], by simp⟩, ⟨by simp [go_sem], by simp [go_sem], by simp [go_sem], by simp [go_sem], by simp [go_sem], by simp⟩, fun j => by simp [go_sem], fun j => by simp [go_sem], by simp, ?_⟩
  exact (((Below.refl _ w).alloc (Nat.le_refl _) _).alloc (by simp) _).alloc (by simp; omega) _
set_option maxRecDepth 100000 in
set_option maxHeartbeats 4000000 in
theorem decode_own (s : ByteArray) (w : World) (hs : s.size ≤ 281474976710656) :
    Calls Tryz.prog 48 #[.string s] w fun e w' => ∃ u, e = .returned (.tuple #[u, .int .i64 (decE s.data.toList)]) ∧ (∀ W, StaysF w.heap.size w' W → ItemIs W u (decI s.data.toList)) ∧ Below w.heap.size w w' := by
  have hmf : ∀ (fn : Fn) (first cap : Array Value) (w : World), (Instr.makeFunc fn first cap).run Tryz.prog w = .ok (.func fn first cap) w := fun _ _ _ _ => rfl
  cases hp : pItem s.data.toList with
  | none =>
    rw [show decE s.data.toList = 1 by rw [decE, hp], show decI s.data.toList = Itm.none by rw [decI, hp]]
    have HPP := hide hp
    clear hp
    go_enter Tryz.func48, Tryz.ntmps48
    go_wp2_with fail
    generalize hW : World.alloc _ _ = W
    obtain ⟨b1, b2, b3, b4, b5, b6, b7⟩ := begin_dec s w W (by rw [← hW])
    have HD := hide (dec1_any w.heap.size (w.heap.size + 2) s (W.alloc (.cells #[.int .i64 0] 29)) (((Kept.refl (fun _ => False) W).alloc _).cell' b1 (fun e => e)) (b3.alloc _) (fun j => (((Below.refl W.heap.size W).alloc (Nat.le_refl _) _).frozen (p := ⟨w.heap.size + 2, j, none⟩) b3.lt).trans (b5 j)) hs)
    clear hW
    refine (runDec_err _ (one (w.heap.size + 2)) (fun _ => True) W (by simp only [one]; omega) (HD.out.mono ?_)).mono ?_
    · rintro e w1 ⟨hk, h1, -⟩
      obtain ⟨n, hn, rfl⟩ := h1 HPP.out
      exact ⟨n, hn, rfl, hk, trivial⟩
    · rintro e w2 ⟨⟨n, hn, rfl⟩, w1, -, k1, k2⟩
      have hn0 : (n == 0) = false := by rw [beq_eq_false_iff_ne]; exact hn
      have z1 := k1.size
      have R1 := b2.kept k1 (by omega)
      have R2 := R1.kept k2 (by omega)
      have RS2 := ((b4.kept k1 b2.lt (by omega)).kept k2 R1.lt (by omega))
      have hb2 : Below w.heap.size w w2 := b7.trans ((k1.below (by omega) (fun j e => by simp only [one] at e; omega)).trans (k2.below (by omega) (fun j e => by simp only [one] at e; omega)))
      obtain ⟨r0, r1, r2, r3, r4, rlt⟩ := R2
      have g0 := RS2 0
      have g1 := RS2 1
      have g2 := RS2 2
      have g3 := RS2 3
      have g4 := RS2 4
      clear HD b1 b2 b3 b4 b5 b6 b7 k1 k2 R1 RS2
      go_wp2_with fail
      refine bodyPost_ret (v := .tuple #[.agg #[.int .i64 0, .string ⟨#[]⟩, .slice none 0 0, .slice none 0 0, .slice none 0 0], .int .i64 1]) (by simp [results, Tryz.results48, go_sem, r0, r1, r2, r3, r4]) rfl ⟨_, rfl, fun W' _ => zero_isd W', ?_⟩
      go_grown
  | some x =>
    obtain ⟨E, hE⟩ : ∃ E, E = chkI x := ⟨_, rfl⟩
    obtain ⟨RI, hRI⟩ : ∃ RI, RI = if chkI x = 0 then x else Itm.none := ⟨_, rfl⟩
    rw [show decE s.data.toList = E by rw [decE, hp, hE], show decI s.data.toList = RI by rw [decI, hp, hRI]]
    have HR0 : Hid (E = 0 → RI = x) := fun h => by rw [hRI, if_pos (by rw [← hE]; exact h)]
    have HRn : Hid (E ≠ 0 → RI = Itm.none) := fun h => by rw [hRI, if_neg (by rw [← hE]; exact h)]
    have HCE := hide hE
    have HPP := hide hp
    clear hp hE hRI
    go_enter Tryz.func48, Tryz.ntmps48
    go_wp2_with fail
    generalize hW : World.alloc _ _ = W
    obtain ⟨b1, b2, b3, b4, b5, b6, b7⟩ := begin_dec s w W (by rw [← hW])
    have HD := hide (dec1_any w.heap.size (w.heap.size + 2) s (W.alloc (.cells #[.int .i64 0] 29)) (((Kept.refl (fun _ => False) W).alloc _).cell' b1 (fun e => e)) (b3.alloc _) (fun j => (((Below.refl W.heap.size W).alloc (Nat.le_refl _) _).frozen (p := ⟨w.heap.size + 2, j, none⟩) b3.lt).trans (b5 j)) hs)
    clear hW
    refine (runDec_ok _ (one (w.heap.size + 2)) (ReadIn ((W.alloc (.cells #[.int .i64 0] 29)).heap.size + 2) (w.heap.size + 2) x) W (by simp only [one]; omega) (HD.out.mono ?_)).mono ?_
    · rintro e w1 ⟨hk, -, h2⟩
      obtain ⟨rfl, hr⟩ := h2 x HPP.out
      exact ⟨rfl, hk, hr⟩
    · rintro e w2 ⟨rfl, w1, ⟨k, t, a1, n1, c1, a2, n2, c2, a3, n3, c3, hX, hI⟩, k1, k2⟩
      have z1 := k1.size
      have R1 := b2.kept k1 (by omega)
      have R2 := hide (R1.kept k2 (by omega))
      have RS2 := hide ((b4.kept k1 b2.lt (by omega)).kept k2 R1.lt (by omega))
      have X2 := hide (hX.kept k2 (by omega))
      have hb2 : Below w.heap.size w w2 := b7.trans ((k1.below (by omega) (fun j e => by simp only [one] at e; omega)).trans (k2.below (by omega) (fun j e => by simp only [one] at e; omega)))
      have I2 : Hid (∀ W', StaysF (w.heap.size + 3) w2 W' → ItemIs W' (.agg #[.int .i64 k, .string t, .slice a1 n1 c1, .slice a2 n2 c2, .slice a3 n3 c3]) x) := fun W' hW' => hI W' (fun g o u hg hu hfz => by
        rw [World.size_alloc] at hg
        exact hW' g o u (by omega) (k2.cell' (p := ⟨g, o, none⟩) hu (by simp only [one]; omega)) ((k2.frozenK (p := ⟨g, o, none⟩) hu (by simp only [one]; omega)).trans hfz))
      have HC := hide (check_any _ x w2 (I2.out w2 (fun _ _ _ _ h _ => h)))
      rw [← HCE.out] at HC
      clear HD b1 b2 b3 b4 b5 b6 b7 k1 k2 R1 hX hI
      obtain ⟨x0, x1, x2, x3, x4, xlt⟩ := X2.out
      go_wp2_with fail
      refine HC.out.mono ?_
      rintro e w3 ⟨rfl, hb3⟩
      have z3 := hb3.size
      have hb3' : Below w.heap.size w w3 := hb2.trans (hb3.mono hb2.size)
      have R3 := R2.out.below hb3
      have RS3 : SoftB w3 (w.heap.size + 1) := fun j => (hb3.frozen (p := ⟨w.heap.size + 1, j, none⟩) R2.out.lt).trans (RS2.out j)
      obtain ⟨r0, r1, r2, r3, r4, rlt⟩ := R3
      have g0 := RS3 0
      have g1 := RS3 1
      have g2 := RS3 2
      have g3 := RS3 3
      have g4 := RS3 4
      have I3 : Hid (∀ W', StaysF (w.heap.size + 3) w3 W' → ItemIs W' (.agg #[.int .i64 k, .string t, .slice a1 n1 c1, .slice a2 n2 c2, .slice a3 n3 c3]) x) := fun W' hW' => I2.out W' (fun g o u hg hu hfz => hW' g o u hg ((hb3.cell (p := ⟨g, o, none⟩) (World.block_lt_of_cell? _ _ hu)).trans hu) ((hb3.frozen (p := ⟨g, o, none⟩) (World.block_lt_of_cell? _ _ hu)).trans hfz))
      have X3 := hide (X2.out.below hb3)
      clear x0 x1 x2 x3 x4 xlt HC RS3 I2 X2 R2 RS2 hb3 hb2
      clear HCE HPP
      by_cases h0 : E = 0
      · have HRX := hide (HR0.out h0)
        clear HR0 HRn
        subst h0
        obtain ⟨x0, x1, x2, x3, x4, xlt⟩ := X3.out
        have ne5 : w.heap.size + 2 ≠ w.heap.size + 1 := by omega
        have ne6 : w.heap.size + 1 ≠ w.heap.size + 2 := by omega
        go_wp2_with fail
        refine bodyPost_ret (v := .tuple #[.agg #[.int .i64 k, .string t, .slice a1 n1 c1, .slice a2 n2 c2, .slice a3 n3 c3], .int .i64 0]) (by simp [results, Tryz.results48, go_sem, r0, r1, r2, r3, r4]) rfl ⟨_, rfl, fun W' hW' => ?_, ?_⟩
        · rw [HRX.out]
          exact I3.out W' (fun g o u hg hu hfz => hW' g o u (by omega) ((five_off _ _ _ _ _ _ _ g o (by omega)).trans hu) (by simpa using hfz))
        · clear X3 I3
          go_grown
      · have HRX := hide (HRn.out h0)
        have h0' : (E == 0) = false := by rw [beq_eq_false_iff_ne]; exact h0
        clear X3 I3 HR0 HRn
        go_wp2_with fail
        refine bodyPost_ret (v := .tuple #[.agg #[.int .i64 0, .string ⟨#[]⟩, .slice none 0 0, .slice none 0 0, .slice none 0 0], .int .i64 E]) (by simp [results, Tryz.results48, go_sem, r0, r1, r2, r3, r4]) rfl ⟨_, rfl, fun W' _ => by rw [HRX.out]; exact zero_isd W', ?_⟩
        go_grown
theorem decode_any (s : ByteArray) (w : World) (hs : s.size ≤ 281474976710656) :
    Calls Tryz.prog 48 #[.string s] w fun e w' => ∃ u, e = .returned (.tuple #[u, .int .i64 (decE s.data.toList)]) ∧ (∀ W, Stays w.heap.size w' W → ItemIs W u (decI s.data.toList)) ∧ Below w.heap.size w w' :=
  (decode_own s w hs).mono fun _ _ ⟨u, he, hi, hb⟩ => ⟨u, he, fun W hW => hi W (.of hW), hb⟩
end Go.Proofs.YtcidoodaiimhfaaGreat

/- WALKS of what must be of items in any case. -/
namespace Go.Proofs.YtcidoodaiimhfaaGreat
open Go.RowKit

def tallyI : Itm := ⟨5, ⟨#[]⟩, [], [], [(-1, ⟨#[98]⟩), (2, ⟨#[97]⟩), (2, ⟨#[99]⟩)]⟩
theorem tally_chk : chkI tallyI = 0 := by decide +kernel
theorem tally_enc : encI tallyI = [5, 3, 59, 154, 201, 254, 1, 98, 59, 154, 202, 1, 1, 97, 59, 154, 202, 1, 1, 99] := by decide +kernel
theorem tally_dec : decE (encI tallyI) = 0 ∧ decI (encI tallyI) = tallyI := by
  unfold decE decI
  rw [item_there tally_chk]
  simp [tally_chk]
theorem tally_is {w W : World} (hw : ∀ o u, (w.alloc (.cells #[.int .i64 (-1), .string ⟨#[98]⟩, .int .i64 2, .string ⟨#[97]⟩, .int .i64 2, .string ⟨#[99]⟩] 89)).cell? ⟨w.heap.size, o, none⟩ = some u → W.cell? ⟨w.heap.size, o, none⟩ = some u) :
    ItemIs W (.agg #[.int .i64 5, .string ⟨#[]⟩, .slice none 0 0, .slice none 0 0, .slice (some ⟨w.heap.size, 0, none⟩) 3 3]) tallyI := by
  refine ⟨⟨none, 0, none, 0, some ⟨w.heap.size, 0, none⟩, 3, rfl, .inl rfl, .inl rfl, .inr ⟨w.heap.size, 0, rfl, fun i hi => ?_⟩⟩, (show (0 : Nat) ≤ maxLen by simp), by simp [tallyI], by simp [tallyI], ?_, by simp [tallyI], by simp [tallyI], by simp [tallyI]⟩
  · match i, hi with
    | 0, _ => exact ⟨hw _ _ (by simp [go_sem, tallyI]), hw _ _ (by simp [go_sem, tallyI])⟩
    | 1, _ => exact ⟨hw _ _ (by simp [go_sem, tallyI]), hw _ _ (by simp [go_sem, tallyI])⟩
    | 2, _ => exact ⟨hw _ _ (by simp [go_sem, tallyI]), hw _ _ (by simp [go_sem, tallyI])⟩
  · intro t ht
    simp [tallyI] at ht
    rcases ht with rfl | rfl | rfl <;> (show (1 : Nat) ≤ maxLen; unfold maxLen; omega)
set_option maxRecDepth 100000 in
theorem tally_any (w : World) : Calls Tryz.prog 74 #[] w fun e w' => ∃ g, e = .returned (.agg #[.int .i64 5, .string ⟨#[]⟩, .slice none 0 0, .slice none 0 0, .slice (some ⟨g, 0, none⟩) 3 3]) ∧ ItemIs w' (.agg #[.int .i64 5, .string ⟨#[]⟩, .slice none 0 0, .slice none 0 0, .slice (some ⟨g, 0, none⟩) 3 3]) tallyI ∧ Below w.heap.size w w' := by
  go_enter Tryz.func74, Tryz.ntmps74
  go_wp2_with fail
  refine bodyPost_ret (v := .agg #[.int .i64 5, .string ⟨#[]⟩, .slice none 0 0, .slice none 0 0, .slice (some ⟨w.heap.size + 1, 0, none⟩) 3 3]) (by simp [results, Tryz.results74, go_sem]) rfl ⟨_, rfl, ?_, ?_⟩
  · have h := tally_is (w := w.alloc (.cells #[.int .i64 5, .string ⟨#[]⟩, .slice none 0 0, .slice none 0 0, .slice (some ⟨w.heap.size + 1, 0, none⟩) 3 3] 28)) (W := _) (fun _ _ h => h)
    rw [World.size_alloc] at h
    exact h
  · go_grown
set_option maxRecDepth 100000 in
set_option maxHeartbeats 4000000 in
theorem itemBegun_any (w : World) : Calls Tryz.prog 26 #[] w fun e w' => e = .returned (.bool true) ∧ Below w.heap.size w w' := by
  have HT := hide tally_any
  have HE : Hid (∀ v W, ItemIs W v tallyI → Calls Tryz.prog 47 #[v] W fun e w' => e = .returned (.tuple #[.string ⟨#[5, 3, 59, 154, 201, 254, 1, 98, 59, 154, 202, 1, 1, 97, 59, 154, 202, 1, 1, 99]⟩, .int .i64 0]) ∧ Below W.heap.size W w') := fun v W h => by
    have hh := encode_any v tallyI W h
    rw [encV, if_pos tally_chk, tally_enc, tally_chk] at hh
    exact hh
  have HD : Hid (∀ W, Calls Tryz.prog 48 #[.string ⟨#[5, 3, 59, 154, 201, 254, 1, 98, 59, 154, 202, 1, 1, 97, 59, 154, 202, 1, 1, 99]⟩] W fun e w' => ∃ u, (e = .returned (.tuple #[u, .int .i64 0]) ∧ ItemIs w' u tallyI) ∧ Below W.heap.size W w') := fun W => by
    have hh := decode_any ⟨#[5, 3, 59, 154, 201, 254, 1, 98, 59, 154, 202, 1, 1, 97, 59, 154, 202, 1, 1, 99]⟩ W (by decide)
    have e1 : (ByteArray.data ⟨#[5, 3, 59, 154, 201, 254, 1, 98, 59, 154, 202, 1, 1, 97, 59, 154, 202, 1, 1, 99]⟩).toList = encI tallyI := tally_enc.symm
    rw [e1, tally_dec.1, tally_dec.2] at hh
    exact hh.mono fun e w' ⟨u, h1, h2, h3⟩ => ⟨u, ⟨h1, h2 w' (fun _ _ _ _ h => h)⟩, h3⟩
  have HC : Hid (∀ v W, ItemIs W v tallyI → Calls Tryz.prog 75 #[v] W fun e w' => e = .returned (.int .i64 0) ∧ Below W.heap.size W w') := fun v W h => by
    have hh := check_any v tallyI W h
    rw [tally_chk] at hh
    exact hh
  have HS : Hid (∀ v u W, ItemIs W v tallyI → ItemIs W u tallyI → Calls Tryz.prog 22 #[v, u] W fun e w' => e = .returned (.bool true) ∧ Below W.heap.size W w') := fun v u W h1 h2 => by
    have hh := sameItem_any v u _ _ W h1 h2
    rw [show sameI tallyI tallyI = true by simp [sameI]] at hh
    exact hh
  go_enter Tryz.func26, Tryz.ntmps26
  go_wp2_with fail
  refine (HT.out _).mono ?_
  rintro e w0 ⟨g0, rfl, i0, hb0⟩
  have I0 := hide i0
  clear i0
  go_wp2_with fail
  refine (HE.out _ _ I0.out).mono ?_
  rintro e w1 ⟨rfl, hb1⟩
  have B1 : Below w.heap.size w w1 := hb0.trans (hb1.mono hb0.size)
  clear I0 hb0 hb1
  go_wp2_with fail
  refine (HD.out _).mono ?_
  rintro e w2 ⟨u, ⟨rfl, i2⟩, hb2⟩
  have B2 : Below w.heap.size w w2 := B1.trans (hb2.mono B1.size)
  obtain ⟨k, t, a1, n1, c1, a2, n2, c2, a3, n3, c3, rfl⟩ := i2.shaped
  have I2 := hide (i2.below ((Below.refl _ w2).alloc (Nat.le_refl _) (.cells #[.int .i64 k, .string t, .slice a1 n1 c1, .slice a2 n2 c2, .slice a3 n3 c3] 28)))
  have Y2 := hide (BoxAt.new w2 (.int .i64 k) (.string t) (.slice a1 n1 c1) (.slice a2 n2 c2) (.slice a3 n3 c3) 28)
  have B3 := hide (B2.alloc B2.size (.cells #[.int .i64 k, .string t, .slice a1 n1 c1, .slice a2 n2 c2, .slice a3 n3 c3] 28))
  clear i2 hb2 B1 HD HE
  go_wp2_with fail
  generalize hW2 : World.alloc w2 _ = W2 at *
  clear hW2
  have HSS : Hid (∀ W, Below W2.heap.size W2 W → (fun w' => w'.cell? ⟨w2.heap.size, 0, none⟩ = some (.int .i64 k) ∧ w'.cell? ⟨w2.heap.size, 1, none⟩ = some (.string t) ∧ w'.cell? ⟨w2.heap.size, 2, none⟩ = some (.slice a1 n1 c1) ∧ w'.cell? ⟨w2.heap.size, 3, none⟩ = some (.slice a2 n2 c2) ∧ w'.cell? ⟨w2.heap.size, 4, none⟩ = some (.slice a3 n3 c3)) W) := fun W hW => by
    obtain ⟨y0, y1, y2, y3, y4, _⟩ := Y2.out.below hW
    exact ⟨y0, y1, y2, y3, y4⟩
  have C2 : Below W2.heap.size W2 W2.drew := (Below.refl _ W2).drew
  refine wp_region_held_drew (S := (fun w' => w'.cell? ⟨w2.heap.size, 0, none⟩ = some (.int .i64 k) ∧ w'.cell? ⟨w2.heap.size, 1, none⟩ = some (.string t) ∧ w'.cell? ⟨w2.heap.size, 2, none⟩ = some (.slice a1 n1 c1) ∧ w'.cell? ⟨w2.heap.size, 3, none⟩ = some (.slice a2 n2 c2) ∧ w'.cell? ⟨w2.heap.size, 4, none⟩ = some (.slice a3 n3 c3))) (by kernel_rfl) (HSS.out _ C2) (fun hHeld => ?_)
  refine wpAnyH_ready (rs := [0]) (by kernel_rfl) (by simp) ?_
  refine AllReadyH.cons rfl (fun K hK => ?_) AllReadyH.nil
  go_simp
  refine (HT.out _).mono ?_
  rintro e w4 ⟨g4, rfl, i4, hbw4⟩
  have Cw4 : Below W2.heap.size W2 w4 := C2.trans (hbw4.mono C2.size)
  have I4 := hide i4
  clear i4
  refine hK.out _ _ (HSS.out _ Cw4) (fun hHeld => ?_)
  clear hK K hHeld
  have hHeld := HSS.out _ Cw4
  refine wpAnyH_ready (rs := [1]) (by kernel_rfl) (by simp) ?_
  refine AllReadyH.cons rfl (fun K hK => ?_) AllReadyH.nil
  go_simp
  refine (HC.out _ _ I4.out).mono ?_
  rintro e w5 ⟨rfl, hbw5⟩
  have Cw5 : Below W2.heap.size W2 w5 := Cw4.trans (hbw5.mono Cw4.size)
  refine hK.out _ _ (HSS.out _ Cw5) (fun hHeld => ?_)
  clear hK K hHeld
  have hHeld := HSS.out _ Cw5
  refine wpAnyH_take (i := 2) (v := .bool true) rfl (by kernel_rfl) (by kernel_rfl) (by kernel_rfl) (fun _ _ _ h => h) (Or.inl ⟨by kernel_rfl, by intro w hSw; (try dsimp only at hSw); go_simp⟩) (by assumption) ?_
  refine wpAnyH_take (i := 3) (v := .bool true) rfl (by kernel_rfl) (by kernel_rfl) (by kernel_rfl) (fun _ _ _ h => h) (Or.inl ⟨by kernel_rfl, by intro w hSw; (try dsimp only at hSw); go_simp⟩) (by assumption) ?_
  refine wpAnyH_take (i := 4) (v := .int .i64 0) rfl (by kernel_rfl) (by kernel_rfl) (by kernel_rfl) (fun _ _ _ h => h) (Or.inl ⟨by kernel_rfl, by intro w hSw; (try dsimp only at hSw); go_simp⟩) (by assumption) ?_
  refine wpAnyH_take (i := 5) (v := .bool true) rfl (by kernel_rfl) (by kernel_rfl) (by kernel_rfl) (fun _ _ _ h => h) (Or.inl ⟨by kernel_rfl, by intro w hSw; (try dsimp only at hSw); go_simp⟩) (by assumption) ?_
  refine wpAnyH_take (i := 6) (v := .bool true) rfl (by kernel_rfl) (by kernel_rfl) (by kernel_rfl) (fun _ _ _ h => h) (Or.inl ⟨by kernel_rfl, by intro w hSw; (try dsimp only at hSw); go_simp⟩) (by assumption) ?_
  refine wpAnyH_take (i := 7) (v := .bool true) rfl (by kernel_rfl) (by kernel_rfl) (by kernel_rfl) (fun _ _ _ h => h) (Or.inl ⟨by kernel_rfl, by intro w hSw; (try dsimp only at hSw); go_simp⟩) (by assumption) ?_
  refine wpAnyH_take (i := 8) (v := .int .i64 0) rfl (by kernel_rfl) (by kernel_rfl) (by kernel_rfl) (fun _ _ _ h => h) (Or.inl ⟨by kernel_rfl, by intro w hSw; (try dsimp only at hSw); go_simp⟩) (by assumption) ?_
  refine wpAnyH_take (i := 9) (v := .bool true) rfl (by kernel_rfl) (by kernel_rfl) (by kernel_rfl) (fun _ _ _ h => h) (Or.inl ⟨by kernel_rfl, by intro w hSw; (try dsimp only at hSw); go_simp⟩) (by assumption) ?_
  refine wpAnyH_take (i := 10) (v := .bool true) rfl (by kernel_rfl) (by kernel_rfl) (by kernel_rfl) (fun _ _ _ h => h) (Or.inl ⟨by kernel_rfl, by intro w hSw; (try dsimp only at hSw); go_simp⟩) (by assumption) ?_
  refine wpAnyH_take (i := 11) (v := .bool true) rfl (by kernel_rfl) (by kernel_rfl) (by kernel_rfl) (fun _ _ _ h => h) (Or.inl ⟨by kernel_rfl, by intro w hSw; (try dsimp only at hSw); go_simp⟩) (by assumption) ?_
  refine wpAnyH_take (i := 12) (v := .agg #[.int .i64 k, .string t, .slice a1 n1 c1, .slice a2 n2 c2, .slice a3 n3 c3]) rfl (by kernel_rfl) (by kernel_rfl) (by kernel_rfl) (fun _ _ _ h => h) (Or.inl ⟨by kernel_rfl, by intro w hSw; (try dsimp only at hSw); go_simp⟩) (by assumption) ?_
  refine wpAnyH_ready (rs := [13]) (by kernel_rfl) (by simp) ?_
  refine AllReadyH.cons rfl (fun K hK => ?_) AllReadyH.nil
  go_simp
  refine (HT.out _).mono ?_
  rintro e w6 ⟨g6, rfl, i6, hbw6⟩
  have Cw6 : Below W2.heap.size W2 w6 := Cw5.trans (hbw6.mono Cw5.size)
  have I6 := hide i6
  clear i6
  refine hK.out _ _ (HSS.out _ Cw6) (fun hHeld => ?_)
  clear hK K hHeld
  have hHeld := HSS.out _ Cw6
  refine wpAnyH_ready (rs := [14]) (by kernel_rfl) (by simp) ?_
  refine AllReadyH.cons rfl (fun K hK => ?_) AllReadyH.nil
  go_simp
  refine (HS.out _ _ _ (I2.out.below Cw6) I6.out).mono ?_
  rintro e w7 ⟨rfl, hbw7⟩
  have Cw7 : Below W2.heap.size W2 w7 := Cw6.trans (hbw7.mono Cw6.size)
  refine hK.out _ _ (HSS.out _ Cw7) (fun hHeld => ?_)
  clear hK K hHeld
  have hHeld := HSS.out _ Cw7
  refine wpAnyH_take (i := 15) (v := .bool true) rfl (by kernel_rfl) (by kernel_rfl) (by kernel_rfl) (fun _ _ _ h => h) (Or.inl ⟨by kernel_rfl, by intro w hSw; (try dsimp only at hSw); go_simp⟩) (by assumption) ?_
  refine wpAnyH_take (i := 16) (v := .bool true) rfl (by kernel_rfl) (by kernel_rfl) (by kernel_rfl) (fun _ _ _ h => h) (Or.inl ⟨by kernel_rfl, by intro w hSw; (try dsimp only at hSw); go_simp⟩) (by assumption) ?_
  refine wpAnyH_take (i := 17) (v := .string ⟨#[5, 3, 59, 154, 201, 254, 1, 98, 59, 154, 202, 1, 1, 97, 59, 154, 202, 1, 1, 99]⟩) rfl (by kernel_rfl) (by kernel_rfl) (by kernel_rfl) (fun _ _ _ h => h) (Or.inl ⟨by kernel_rfl, by intro w hSw; (try dsimp only at hSw); go_simp⟩) (by assumption) ?_
  refine wpAnyH_take (i := 18) (v := .int .i64 20) rfl (by kernel_rfl) (by kernel_rfl) (by kernel_rfl) (fun _ _ _ h => h) (Or.inl ⟨by kernel_rfl, by intro w hSw; (try dsimp only at hSw); go_simp⟩) (by assumption) ?_
  refine wpAnyH_take (i := 19) (v := .bool true) rfl (by kernel_rfl) (by kernel_rfl) (by kernel_rfl) (fun _ _ _ h => h) (Or.inl ⟨by kernel_rfl, by intro w hSw; (try dsimp only at hSw); go_simp⟩) (by assumption) ?_
  refine wpAnyH_take (i := 20) (v := .bool true) rfl (by kernel_rfl) (by kernel_rfl) (by kernel_rfl) (fun _ _ _ h => h) (Or.inl ⟨by kernel_rfl, by intro w hSw; (try dsimp only at hSw); go_simp⟩) (by assumption) ?_
  refine wpAnyH_take (i := 21) (v := .bool true) rfl (by kernel_rfl) (by kernel_rfl) (by kernel_rfl) (fun _ _ _ h => h) (Or.inl ⟨by kernel_rfl, by intro w hSw; (try dsimp only at hSw); go_simp⟩) (by assumption) ?_
  refine wpAnyH_take (i := 22) (v := .string ⟨#[5, 3, 59, 154, 201, 254, 1, 98, 59, 154, 202, 1, 1, 97, 59, 154, 202, 1, 1, 99]⟩) rfl (by kernel_rfl) (by kernel_rfl) (by kernel_rfl) (fun _ _ _ h => h) (Or.inl ⟨by kernel_rfl, by intro w hSw; (try dsimp only at hSw); go_simp⟩) (by assumption) ?_
  refine wpAnyH_take (i := 23) (v := .string ⟨#[5, 3, 59, 154, 201, 254, 1, 98]⟩) rfl (by kernel_rfl) (by kernel_rfl) (by kernel_rfl) (fun _ _ _ h => h) (Or.inl ⟨by kernel_rfl, by intro w hSw; (try dsimp only at hSw); go_simp; first | rfl | decide +kernel⟩) (by assumption) ?_
  refine wpAnyH_take (i := 24) (v := .bool true) rfl (by kernel_rfl) (by kernel_rfl) (by kernel_rfl) (fun _ _ _ h => h) (Or.inl ⟨by kernel_rfl, by intro w hSw; (try dsimp only at hSw); go_simp⟩) (by assumption) ?_
  refine wpAnyH_take (i := 25) (v := .bool true) rfl (by kernel_rfl) (by kernel_rfl) (by kernel_rfl) (fun _ _ _ h => h) (Or.inl ⟨by kernel_rfl, by intro w hSw; (try dsimp only at hSw); go_simp⟩) (by assumption) ?_
  refine wpAnyH_take (i := 26) (v := .bool true) rfl (by kernel_rfl) (by kernel_rfl) (by kernel_rfl) (fun _ _ _ h => h) (Or.inl ⟨by kernel_rfl, by intro w hSw; (try dsimp only at hSw); go_simp⟩) (by assumption) ?_
  refine wpAnyH_done (by kernel_rfl) ?_ _
  clear hHeld HSS
  go_wp2_with fail
  go_ret
  exact ⟨rfl, B3.out.trans (Cw7.mono B3.out.size)⟩
end Go.Proofs.YtcidoodaiimhfaaGreat

/- Scores as plain data: what was put last of each member; scores in the order of their numbers, then of their members. -/
namespace Go.Proofs.YtcidoodaiimhfaaGreat.Z

abbrev Sc := Int × ByteArray
/-- the order of scores -/
def lessS (a b : Sc) : Prop := a.1 < b.1 ∨ (a.1 = b.1 ∧ lessT a.2 b.2)
theorem cmpS_lt (a b : Sc) : cmpS a b < 0 ↔ lessS a b := by
  unfold cmpS lessS
  by_cases h1 : a.1 < b.1
  · simp [h1]
  · by_cases h2 : b.1 < a.1
    · have : ¬ a.1 = b.1 := by omega
      simp [h1, h2, this]
    · have : a.1 = b.1 := by omega
      rw [if_neg h1, if_neg h2, cmpT_lt]
      simp [this]
theorem lessS_irrefl (a : Sc) : ¬ lessS a a := by
  rintro (h | ⟨_, h⟩)
  · omega
  · exact lessT_irrefl _ h
theorem lessS_trans {a b c : Sc} (h : lessS a b) (h2 : lessS b c) : lessS a c := by
  rcases h with h | ⟨e, h⟩ <;> rcases h2 with h2 | ⟨e2, h2⟩
  · exact .inl (by omega)
  · exact .inl (by omega)
  · exact .inl (by omega)
  · exact .inr ⟨by omega, lessT_trans h h2⟩
theorem lessS_or (a b : Sc) : lessS a b ∨ a = b ∨ lessS b a := by
  obtain ⟨a1, a2⟩ := a
  obtain ⟨b1, b2⟩ := b
  by_cases h1 : a1 < b1
  · exact .inl (.inl h1)
  · by_cases h2 : b1 < a1
    · exact .inr (.inr (.inl h2))
    · obtain rfl : a1 = b1 := by omega
      rcases lessT_or a2 b2 with h | h | h
      · exact .inl (.inr ⟨rfl, h⟩)
      · exact .inr (.inl (by rw [h]))
      · exact .inr (.inr (.inr ⟨rfl, h⟩))
/-- the last score of a member -/
def lastS (ms : List Sc) (f : ByteArray) : Option Sc := ms.reverse.find? fun p => decide (p.2 = f)
theorem lastS_snoc (ms : List Sc) (p : Sc) (f : ByteArray) : lastS (ms ++ [p]) f = if p.2 = f then some p else lastS ms f := by
  unfold lastS
  rw [List.reverse_append, List.reverse_singleton, List.singleton_append, List.find?_cons]
  by_cases h : p.2 = f <;> simp [h]
theorem lastS_member {ms : List Sc} {f : ByteArray} {p : Sc} (h : lastS ms f = some p) : p.2 = f := by
  have := List.find?_some h
  simpa using this
theorem lastS_mem {ms : List Sc} {f : ByteArray} {p : Sc} (h : lastS ms f = some p) : p ∈ ms := by
  have := List.mem_of_find?_eq_some h
  simpa using this
theorem lastS_some {ms : List Sc} {p : Sc} (h : p ∈ ms) : ∃ q, lastS ms p.2 = some q := by
  unfold lastS
  cases hf : ms.reverse.find? fun q => decide (q.2 = p.2) with
  | some q => exact ⟨q, rfl⟩
  | none =>
    have := List.find?_eq_none.1 hf p (by simpa using h)
    simp at this
def RisesS (l : List Sc) : Prop := l.Pairwise lessS
/-- no member is there twice -/
def OnceS (l : List Sc) : Prop := ∀ p ∈ l, ∀ q ∈ l, p.2 = q.2 → p = q
theorem lastS_once {l : List Sc} (h : OnceS l) {p : Sc} : lastS l p.2 = some p ↔ p ∈ l := by
  constructor
  · exact lastS_mem
  · intro hp
    obtain ⟨q, hq⟩ := lastS_some hp
    rw [hq, h p hp q (lastS_mem hq) (lastS_member hq).symm]
/-- two that rise and have the same members are one -/
theorem risesS_unique : ∀ {l m : List Sc}, RisesS l → RisesS m → (∀ x, x ∈ l ↔ x ∈ m) → l = m
  | [], [], _, _, _ => rfl
  | [], b :: m, _, _, h => by have := (h b).2 (by simp); cases this
  | a :: l, [], _, _, h => by have := (h a).1 (by simp); cases this
  | a :: l, b :: m, hl, hm, h => by
    have hl' := List.pairwise_cons.1 hl
    have hm' := List.pairwise_cons.1 hm
    have hab : a = b := by
      have h1 := (h a).1 (by simp)
      have h2 := (h b).2 (by simp)
      rcases List.mem_cons.1 h1 with e | h1
      · exact e
      rcases List.mem_cons.1 h2 with e | h2
      · exact e.symm
      exact absurd (lessS_trans (hm'.1 a h1) (hl'.1 b h2)) (lessS_irrefl _)
    subst hab
    congr 1
    refine risesS_unique hl'.2 hm'.2 (fun x => ⟨fun hx => ?_, fun hx => ?_⟩)
    · rcases List.mem_cons.1 ((h x).1 (by simp [hx])) with e | h1
      · subst e; exact absurd (hl'.1 _ hx) (lessS_irrefl _)
      · exact h1
    · rcases List.mem_cons.1 ((h x).2 (by simp [hx])) with e | h1
      · subst e; exact absurd (hm'.1 _ hx) (lessS_irrefl _)
      · exact h1
/-- a score laid in its place -/
def insS : List Sc → Sc → List Sc
  | [], p => [p]
  | a :: r, p => if cmpS p a < 0 then p :: a :: r else a :: insS r p
theorem mem_insS {l : List Sc} {p q : Sc} : q ∈ insS l p ↔ q = p ∨ q ∈ l := by
  induction l with
  | nil => simp [insS]
  | cons a r ih =>
    rw [insS]
    split
    · simp
    · rw [List.mem_cons, ih, List.mem_cons]
      constructor
      · rintro (h | h | h)
        · exact .inr (.inl h)
        · exact .inl h
        · exact .inr (.inr h)
      · rintro (h | h | h)
        · exact .inr (.inl h)
        · exact .inl h
        · exact .inr (.inr h)
theorem insS_len (l : List Sc) (p : Sc) : (insS l p).length = l.length + 1 := by
  induction l with
  | nil => rfl
  | cons a r ih =>
    rw [insS]
    split
    · rfl
    · simp [ih]
theorem rises_insS {l : List Sc} (h : RisesS l) {p : Sc} (hn : p ∉ l) : RisesS (insS l p) := by
  induction l with
  | nil => simp [insS, RisesS]
  | cons a r ih =>
    have h' := List.pairwise_cons.1 h
    rw [insS]
    split
    · rename_i hc
      have hlt := (cmpS_lt _ _).1 hc
      refine List.pairwise_cons.2 ⟨fun q hq => ?_, h⟩
      rcases List.mem_cons.1 hq with rfl | h1
      · exact hlt
      · exact lessS_trans hlt (h'.1 q h1)
    · rename_i hc
      refine List.pairwise_cons.2 ⟨fun q hq => ?_, ih h'.2 (fun h2 => hn (by simp [h2]))⟩
      rcases mem_insS.1 hq with rfl | h1
      · rcases lessS_or a q with h2 | h2 | h2
        · exact h2
        · exact absurd (h2 ▸ List.mem_cons_self) hn
        · exact absurd ((cmpS_lt _ _).2 h2) hc
      · exact h'.1 q h1
/-- all but those of a member -/
def lessM (l : List Sc) (m : ByteArray) : List Sc := l.filter fun q => !decide (q.2 = m)
theorem mem_lessM {l : List Sc} {m : ByteArray} {q : Sc} : q ∈ lessM l m ↔ q ∈ l ∧ q.2 ≠ m := by simp [lessM]
theorem lessM_len (l : List Sc) (m : ByteArray) : (lessM l m).length ≤ l.length := List.length_filter_le _ _
def putS (l : List Sc) (p : Sc) : List Sc := insS (lessM l p.2) p
theorem mem_putS {l : List Sc} {p q : Sc} : q ∈ putS l p ↔ q = p ∨ (q ∈ l ∧ q.2 ≠ p.2) := by rw [putS, mem_insS, mem_lessM]
theorem rises_putS {l : List Sc} (h : RisesS l) (p : Sc) : RisesS (putS l p) :=
  rises_insS (List.Pairwise.sublist List.filter_sublist h) (fun hm => (mem_lessM.1 hm).2 rfl)
theorem putS_len (l : List Sc) (p : Sc) : (putS l p).length ≤ l.length + 1 := by
  rw [putS, insS_len]
  have := lessM_len l p.2
  omega
def togS (there l : List Sc) : List Sc := l.foldl putS there
theorem togS_snoc (there l : List Sc) (p : Sc) : togS there (l ++ [p]) = putS (togS there l) p := by simp [togS]
theorem rises_togS {there : List Sc} (h : RisesS there) (l : List Sc) : RisesS (togS there l) := by
  induction l generalizing there with
  | nil => exact h
  | cons p r ih => exact ih (rises_putS h p)
theorem togS_len (there l : List Sc) : (togS there l).length ≤ there.length + l.length := by
  induction l generalizing there with
  | nil => simp [togS]
  | cons p r ih =>
    have h1 := ih (there := putS there p)
    have h2 := putS_len there p
    have e : togS there (p :: r) = togS (putS there p) r := rfl
    rw [e, List.length_cons]
    omega
theorem mem_togS {there : List Sc} (h : OnceS there) (l : List Sc) : ∀ q, q ∈ togS there l ↔ lastS (there ++ l) q.2 = some q := by
  obtain ⟨n, hn⟩ : ∃ n, n = l.length := ⟨_, rfl⟩
  induction n generalizing l with
  | zero =>
    obtain rfl : l = [] := List.eq_nil_of_length_eq_zero hn.symm
    intro q
    rw [List.append_nil]
    exact (lastS_once h).symm
  | succ n ih =>
    intro q
    have hne : l ≠ [] := fun e => by rw [e] at hn; cases hn
    obtain ⟨r, p, rfl⟩ : ∃ r p, l = r ++ [p] := ⟨_, _, (List.dropLast_concat_getLast hne).symm⟩
    have hr : n = r.length := by simp at hn; exact hn
    rw [togS_snoc, mem_putS, ih r hr q, ← List.append_assoc, lastS_snoc]
    by_cases e : p.2 = q.2
    · rw [if_pos e]
      constructor
      · rintro (rfl | ⟨_, h2⟩)
        · rfl
        · exact absurd e.symm h2
      · intro h1; exact .inl (Option.some.inj h1).symm
    · rw [if_neg e]
      constructor
      · rintro (rfl | ⟨h1, _⟩)
        · exact absurd rfl e
        · exact h1
      · intro h1; exact .inr ⟨h1, fun e2 => e e2.symm⟩
theorem once_togS {there : List Sc} (h : OnceS there) (l : List Sc) : OnceS (togS there l) := fun p hp q hq e => by
  have h1 := (mem_togS h l p).1 hp
  have h2 := (mem_togS h l q).1 hq
  rw [e, h2] at h1
  exact (Option.some.inj h1).symm
end Go.Proofs.YtcidoodaiimhfaaGreat.Z

/- A map of scores; what maps.Values hands out; AppendSeq, Grow, Concat of scores. -/
namespace Go.Proofs.YtcidoodaiimhfaaGreat.Z
open Go.RowKit Go.Maps Go.Sort Go.Shelf

def encPr (p : Int × ByteArray) : Value := .agg #[.int .i64 p.1, .string p.2]
def datP (p : Int × ByteArray) : DataW Unit := .agg [.lit (.int .i64 p.1), .lit (.string p.2.data.toList)]
theorem datP_inj {p q : Int × ByteArray} (h : datP p = datP q) : p = q := by
  obtain ⟨p1, ⟨⟨p2⟩⟩⟩ := p
  obtain ⟨q1, ⟨⟨q2⟩⟩⟩ := q
  simp [datP] at h
  simp [h]
def pairElem (v : Value) : Option (DataW Unit × List MemPlace) :=
  match v with
  | .agg cs => match cs.toList with
    | [.int .i64 a, .string b] => some (datP (a, b), [])
    | _ => none
  | _ => none
theorem pairElem_enc (p : Int × ByteArray) : pairElem (encPr p) = some (datP p, []) := rfl
theorem pairElem_inv {v : Value} {z : DataW Unit × List MemPlace} (h : pairElem v = some z) : ∃ p, v = encPr p ∧ z = (datP p, []) := by
  unfold pairElem at h
  split at h
  · rename_i cs
    split at h
    · rename_i a b hc
      refine ⟨(a, b), ?_, (Option.some.inj h).symm⟩
      have : cs = #[.int .i64 a, .string b] := by
        apply Array.toList_inj.1
        rw [hc]
      rw [this]; rfl
    · cases h
  · cases h
/-- the pair's second is what the map has by its first -/
def ValP (D0 : DataW Unit) (q : List UInt8 × (Int × ByteArray)) : Prop := ∀ zd, D0.atKey (.string q.1) zd = datP q.2
def AllP (D0 : DataW Unit) (ps : List (List UInt8 × (Int × ByteArray))) : Prop := (ps.map (·.1)).Nodup ∧ ps.length ≤ Maps.size D0 ∧ (∀ x, x ∈ ps.map (·.1) ↔ has D0 (.string x) = true) ∧ ∀ p ∈ ps, ValP D0 p
def PartP (D0 : DataW Unit) (ps : List (List UInt8 × (Int × ByteArray))) : Prop := (ps.map (·.1)).Nodup ∧ (∀ x ∈ ps.map (·.1), has D0 (.string x) = true) ∧ ∀ p ∈ ps, ValP D0 p
theorem keyedS : Keyed Tryz.prog 9 := string_keyed Tryz.underlying9

set_option maxRecDepth 100000 in
set_option maxHeartbeats 1000000 in
theorem values1P_in (F : Fence) (n : Nat) (h8 : F.fn 223) (hro : F.round = none) (hn : 1 ≤ n) (l Bm b nn : Nat) (D0 : DataW Unit) (J Jx : List (Int × ByteArray) → World → Prop)
    (hY : ∀ pre x W, J pre W → pre.length < Maps.size D0 → YieldAt F (n - 1) Tryz.prog l #[encPr x] W fun e W' =>
      (e = .returned (.bool true) ∧ J (pre ++ [x]) W' ∧ KeepsWalks W W') ∨ (e = .returned (.bool false) ∧ Jx (pre ++ [x]) W'))
    (W : World) (hJ : AbidesFrom W.heap.size J) (hm : W.cell? ⟨Bm, 0, none⟩ = some (.map (some b))) (hown : W.ownsMap Tryz.prog 9 pairElem b nn D0) (h0 : J [] W) :
    CallsIn F n Tryz.prog 223 #[.func (.yield l) #[] #[], .pointer (some ⟨Bm, 0, none⟩)] W fun e W' => (∃ v, e = .returned v) ∧
      ((∃ xs, (∃ ps, AllP D0 ps ∧ xs = ps.map (·.2)) ∧ J xs W') ∨ (∃ pre, (∃ ps, PartP D0 ps ∧ pre = ps.map (·.2)) ∧ Jx pre W')) := by
  refine callsIn_of_wp Tryz.func223 rfl h8 ?_ hro
  simp only [Tryz.ntmps223, List.size_toArray, List.length_cons, List.length_nil, Nat.reduceAdd, Nat.reduceSub, Array.replicate_succ, Array.replicate_zero, List.push_toArray, List.append_toArray, List.nil_append, List.cons_append]
  gi_wp2_with (first
    | (gi_at_range; refine wpListIn_range_own _ rfl _ 183 rfl 9 89 keyedS Tryz.underlying183 _ b nn _ rfl hown ?_; intro w0 hrg0 hg0 hs0)
    | gi_in)
  go_frame
  gi_loopw [4] (fun _ wr => ∃ (left : Lit → Bool) (cnt : Nat) (ps : List (List UInt8 × (Int × ByteArray))), wr.ranges Tryz.prog 9 pairElem b W.heap.size nn D0 left cnt ∧ ps.length + cnt ≤ Maps.size D0 ∧ Collected D0 left (ps.map (·.1)) ∧ (∀ p ∈ ps, ValP D0 p) ∧ J (ps.map (·.2)) wr)
    (fun _ wr => wr.rangeLeft b W.heap.size)
  case atStart =>
    exact ⟨_, _, [], hrg0, by simp, Collected.start D0, by simp, hJ [] W w0 none h0 hg0 (fun r e => by cases e)⟩
  case round =>
    obtain ⟨left, cnt, ps, hrg, hcs, hC, hV, hJs⟩ := hrel
    gi_wp2_with (first
      | (gi_at_next; refine wpListIn_next_ranges _ rfl _ rfl 9 keyedS pairElem encStr (fun c : Int × ByteArray => Value.agg #[.int .i64 c.1, .string c.2]) (fun key kl hk => by obtain ⟨x, hx, _⟩ := Maps.keyOf_str Tryz.underlying9 hk; exact ⟨x, hx⟩) (fun v y hv => by obtain ⟨c, rfl, _⟩ := pairElem_inv hv; exact ⟨c, rfl⟩) b W.heap.size nn _ _ _ rfl hrg ?_ ?_)
      | gi_in)
    · intro hc0 hl0
      gi_wp2
      go_end0
      exact ⟨⟨_, rfl⟩, .inl ⟨_, ⟨ps, ⟨hC.1, by omega, fun x => by rw [hC.2 x, hl0]; simp, hV⟩, rfl⟩, hJs⟩⟩
    · intro x c1 c2 kl yd yp w2 cnt2 hkey hlk hv hat hrg2 hlt hg2 hs2 hen
      obtain ⟨x', ex, rfl, _⟩ := Maps.keyOf_str Tryz.underlying9 hkey
      obtain rfl : x = x' := encStr_inj ex
      obtain ⟨c', ec, ez⟩ := pairElem_inv hv
      obtain rfl : (c1, c2) = c' := by
        obtain ⟨d1, d2⟩ := c'
        simp [encPr] at ec
        simp [ec]
      obtain rfl : yd = datP (c1, c2) := (Prod.mk.inj ez).1
      have hJ1 : J (ps.map (·.2)) w2 := hJ _ wr w2 (some W.heap.size) hJs hg2 (fun r e => by cases e; exact ⟨Nat.le_refl _, hrg.iter_walk⟩)
      have hJ2 : J (ps.map (·.2)) (w2.alloc (.cells #[.int .i64 c1, .string c2] 89)) := hJ _ w2 _ none hJ1 (World.grownBy_alloc _ _ _) (fun r e => by cases e)
      have hkw : KeepsWalks w2 (w2.alloc (.cells #[.int .i64 c1, .string c2] 89)) := KeepsWalks.alloc _ _
      obtain ⟨fn, tmps, assign, body, hy, hR⟩ := hY (ps.map (·.2)) (c1, c2) _ hJ2 (by simp; omega)
      dsimp only [encPr] at hy
      clear hs2 hkey hv ec ez ex hs0
      gi_wp2
      refine hR.mono ?_
      have hC2 : Collected D0 (fun z => left z && !z.sameKey (.string x)) ((ps ++ [(x, (c1, c2))]).map (·.1)) := by simpa using hC.step hlk hat
      have hV2 : ∀ p ∈ ps ++ [(x, (c1, c2))], ValP D0 p := fun p hp => (List.mem_append.1 hp).elim (hV p) (fun e => by simp at e; subst e; exact hat)
      rintro e W3 (⟨rfl, hJ3, hk3⟩ | ⟨rfl, hJx3⟩)
      · gi_wp2
        have hrg3 := hrg2.of_walks (hkw.trans hk3)
        go_roundw
        case rel => exact ⟨_, cnt2, ps ++ [(x, (c1, c2))], hrg3, by simp; omega, hC2, hV2, by simpa using hJ3⟩
        case measure => rw [hrg3.left_eq, hrg.left_eq]; exact hlt
      · gi_wp2
        refine bodyPost_ret (results_none rfl _ _ _) rfl ?_
        exact ⟨⟨_, rfl⟩, .inr ⟨_, ⟨ps ++ [(x, (c1, c2))], ⟨hC2.1, fun y hy => ((hC2.2 y).1 hy).1, hV2⟩, by simp⟩, hJx3⟩⟩

set_option maxHeartbeats 1000000 in
/-- maps.Values: the map is boxed; the function value captures the box -/
theorem valuesP_in (F : Fence) (n : Nat) (hf : F.fn 167) (hro : F.round = none) (mb : Option Nat) (w : World) :
    CallsIn F n Tryz.prog 167 #[.map mb] w fun e w' => e = .returned (.func (.func 223) #[] #[.pointer (some ⟨w.heap.size, 0, none⟩)]) ∧ w' = w.alloc (.cells #[.map mb] 183) := by
  refine callsIn_of_wp Tryz.func167 rfl hf ?_ hro
  simp only [Tryz.ntmps167, List.size_toArray, List.length_cons, List.length_nil, Nat.reduceAdd, Nat.reduceSub, Array.replicate_succ, Array.replicate_zero, List.push_toArray, List.append_toArray, List.nil_append, List.cons_append]
  gi_wp2
  go_ret
  exact ⟨rfl, rfl⟩

/-- what maps.Values hands back gives the values -/
theorem valuesP_stops (F : Fence) (n : Nat) (h7 : F.fn 223) (hro : F.round = none) (hn : 1 ≤ n) (Bm b nn : Nat) (D0 : DataW Unit) (w : World) (hBm : Bm < w.heap.size)
    (hm : w.cell? ⟨Bm, 0, none⟩ = some (.map (some b))) (hown : w.ownsMap Tryz.prog 9 pairElem b nn D0) :
    SeqStops F n Tryz.prog 223 #[.pointer (some ⟨Bm, 0, none⟩)] encPr (fun xs => ∃ ps, AllP D0 ps ∧ xs = ps.map (·.2)) (fun pre => ∃ ps, PartP D0 ps ∧ pre = ps.map (·.2)) (Maps.size D0) w := fun l J Jx W hW hJ _ hY h0 => by
  have hown' : W.ownsMap Tryz.prog 9 pairElem b nn D0 := by
    have hbl := hown.lt
    obtain ⟨es, clock, hb, Ft, hs, hD⟩ := hown
    exact ⟨es, clock, (hW.block b hbl).trans hb, Ft, hs, hD⟩
  exact values1P_in F n h7 hro hn l Bm b nn D0 J Jx hY W hJ ((hW.cell (p := ⟨Bm, 0, none⟩) hBm).trans hm) hown' h0
end Go.Proofs.YtcidoodaiimhfaaGreat.Z
namespace Go.Proofs.YtcidoodaiimhfaaGreat.Z
open Go.RowKit Go.Maps Go.Sort Go.Shelf
attribute [local go_sem] Oper.semAt_some

def rowP (l : List (Int × ByteArray)) : List Value := (l.map fun p => [Value.int .i64 p.1, Value.string p.2]).flatten
theorem rowP_len (l : List (Int × ByteArray)) : (rowP l).length = l.length * 2 := by
  induction l with
  | nil => rfl
  | cons p r ih => simp [rowP] at ih ⊢; omega
theorem rowP_snoc (l : List (Int × ByteArray)) (p : Int × ByteArray) : rowP (l ++ [p]) = rowP l ++ [.int .i64 p.1, .string p.2] := by simp [rowP]
theorem infoScore : (Tryz.prog.info? 89).map (fun i => (i.zero, i.size, i.bytes)) = some (some (.agg #[.int .i64 0, .string ⟨#[]⟩]), 2, 24) := by kernel_rfl

set_option maxRecDepth 100000 in
set_option maxHeartbeats 2000000 in
theorem appendSeqP_in (F : Fence) (n : Nat) (hf : F.fn 241) (hro : F.round = none) (hn : 3 ≤ n) (gf : Nat) (hF : F.fn gf) (eg : ∀ args w, (callFunc gf args).run Tryz.prog w = .ok (.enter gf args) w) (lb : Array Value)
    (S Sp : List (Int × ByteArray) → Prop) (N : Nat) (hN : N ≤ 2000000) (w : World) (hseq : SeqStops F (n - 1) Tryz.prog gf lb encPr S Sp N w) :
    CallsIn F n Tryz.prog 241 #[.slice none 0 0, .func (.func gf) #[] lb] w fun e W' => ∃ xs v, S xs ∧ e = .returned v ∧ W'.ownsRow w.heap.size 89 2 v xs.length (rowP xs) ∧ Below w.heap.size w W' := by
  have h1 : 1 ≤ n := by omega
  obtain ⟨i0, hi, hz0, hz1, hz2⟩ := info_parts infoScore
  refine callsIn_of_wp_marks Tryz.func241 rfl hf ?_ hro
  simp only [Tryz.ntmps241, List.size_toArray, List.length_cons, List.length_nil, Nat.reduceAdd, Nat.reduceSub, Array.replicate_succ, Array.replicate_zero, List.push_toArray, List.append_toArray, List.nil_append, List.cons_append]
  gi_wp2
  have bO := Boxed.new w 26 (.slice none 0 0)
  have hB0 : Below w.heap.size w (w.alloc (.cells #[.slice none 0 0] 26)) := (Below.refl _ w).alloc (Nat.le_refl _) _
  have hsz : (w.alloc (.cells #[.slice none 0 0] 26)).heap.size = w.heap.size + 1 := by simp
  have hseq' : SeqStops F (n - 1) Tryz.prog gf lb encPr S Sp N (w.alloc (.cells #[.slice none 0 0] 26)) := hseq.later hB0
  obtain ⟨W0, hW0⟩ : ∃ W0, w.alloc (.cells #[.slice none 0 0] 26) = W0 := ⟨_, rfl⟩
  rw [hW0] at bO hB0 hsz hseq' ⊢
  clear hW0
  refine wpIn_rangeFunc_ownH hro h1 (gf := gf) (lb := lb) rfl hF eg (encs := fun x => #[encPr x]) (Kp := KeepsWalks) hseq' walksK_t walksK_b (Below.refl _ _) (fun _ => rfl)
    (fun pre W => (∃ v, Boxed W w.heap.size 26 v ∧ W.ownsRow w.heap.size 89 2 v pre.length (rowP pre) ∧ True) ∧ Below w.heap.size w W)
    (fun _ _ _ => False)
    (OwnFrom.and (Own.from (holdsRow_own w.heap.size w.heap.size 26 89 2 (fun pre : List (Int × ByteArray) => pre.length) (fun pre => rowP pre) (fun _ _ => True)) _) (ownFrom_below (Nat.le_refl _) (by omega)))
    (fun _ _ _ _ _ hs _ _ => hs)
    ⟨⟨_, bO, World.ownsRow_nil _ _ _ _, trivial⟩, hB0⟩
    (fun x a' W => ∃ Bx, w.heap.size < Bx ∧ W.heap[Bx]? = some (.cells #[.int .i64 x.1, .string x.2] 89 (0, 0)) ∧ a' = { tmps := #[.slice none 0 0, .func (.func gf) #[] lb, .pointer (some ⟨w.heap.size, 0, none⟩), undef, .slice none 0 0, .pointer (some ⟨Bx, 0, none⟩), .func (.func gf) #[] lb, .agg #[.int .i64 x.1, .string x.2], undef, undef, undef, undef, undef], defers := [] })
    (fun x a' _ X Y row hs hg hr => by
      obtain ⟨Bx, h1, h2, h3⟩ := hs
      refine ⟨Bx, h1, (hg.block Bx (Array.getElem?_eq_some_iff.1 h2).1 (fun e => ?_)).trans h2, h3⟩
      obtain ⟨_, o, ho, hc⟩ := hr Bx e.symm
      rw [h2] at ho; cases ho; cases hc)
    ?assign ?body ?done ?stop
  case assign =>
    rintro l pre ⟨x1, x2⟩ W K ⟨⟨v, bS1, hr1, -⟩, hB1⟩ hK
    dsimp only [encPr]
    gi_wp2
    exact hK _ _ ((KeepsOthers.alloc _ _).from _) (KeepsWalks.alloc _ _) ⟨⟨v, bS1.alloc _, hr1.alloc _, trivial⟩, hB1.alloc hB1.size _⟩ ⟨W.heap.size, bS1.lt, World.alloc_heap_new W _, rfl⟩
  case body =>
    rintro l pre ⟨x1, x2⟩ a' W hl ⟨r, hr⟩ ⟨⟨v, hv, hrow, -⟩, hB⟩ ⟨Bx, hBx, bX, rfl⟩ hlt
    have hc := hv.cell
    have cx0 : W.cell? ⟨Bx, 0, none⟩ = some (.int .i64 x1) := by rw [cell_of_row W Bx 0 _ _ _ bX]; rfl
    have cx1 : W.cell? ⟨Bx, 1, none⟩ = some (.string x2) := by rw [cell_of_row W Bx 1 _ _ _ bX]; rfl
    gi_wp2_with (gi_at_builtin; refine wpListIn_append_own _ rfl _ _ 26 rfl w.heap.size 89 i0 (.agg #[.int .i64 0, .string ⟨#[]⟩]) 2 24 Tryz.underlying26 hi hz0 hz1 hz2 rfl (by decide) _ _ _ rfl (hrow.alloc _) ⟨W.heap.size, 0, none⟩ 1 1 [.int .i64 x1, .string x2] rfl rfl (fun j u hj => by match j, hj with | 0, hj => (simp at hj; subst hj; simp [Addr.add]) | 1, hj => (simp at hj; subst hj; simp [Addr.add])) (by simp [Value.oneCell']) (by unfold maxLen; omega) (by omega) (by have := hB.size; simp; omega) ?_; intro v' w1 hown' hgrow _; obtain ⟨g', cap', rfl⟩ := ownsRow_succ hown'; obtain ⟨hv1, hv2, hr2, hk2, hb2⟩ := hv.appended (by decide) hrow hB.size (Nat.le_refl _) hown' hgrow; have hc1 := hv1.cell; have hf1 := hv1.frozen)
    rw [show pre.length + 1 = (pre ++ [(x1, x2)]).length by simp, show rowP pre ++ [.int .i64 x1, .string x2] = rowP (pre ++ [(x1, x2)]) from (rowP_snoc pre (x1, x2)).symm] at hr2
    exact ⟨hk2.from _, hk2.walks, ⟨_, by simpa using hv2, by simpa using hr2⟩, hB.trans (by simpa using hb2)⟩
  case done =>
    rintro D ys W hD hS ⟨⟨v, hv, hrow, -⟩, hB⟩ hK
    have hc := hv.cell
    gi_wp2
    refine ⟨by simp, .inl ⟨_, _, rfl, run_takeDeferred hK, ?_⟩⟩
    exact ⟨_, results_tmp rfl _ _ _, ys, v, hS, rfl, ownsRow_putObj hrow _ hK rfl, hB.trans (belowK_b (w := w) (Nat.le_refl _) W D _ _ (by omega) hK rfl rfl)⟩
  case stop =>
    rintro D c pre W _ _ h _
    exact h.elim
end Go.Proofs.YtcidoodaiimhfaaGreat.Z
namespace Go.Proofs.YtcidoodaiimhfaaGreat.Z
open Go.RowKit

theorem run_append_noneP (P : Program) (w : World) (base : Nat) (t ty e : TypeId) (i : TypeInfo) (size : Nat) (ht : P.underlying t = some (.slice e)) (hi : P.info? e = some i)
    (v : Value) (n : Nat) (xs : List Value) (hown : w.ownsRow base e size v n xs) (c : Nat) :
    (Builtin.append_ #[t, t] ty #[v, .slice none 0 c]).run P w = .ok v w := by
  rcases hown.2 with ⟨rfl, rfl⟩ | ⟨g, cap, cur, rfl, _, _, hnc, _⟩
  · simp [Builtin.append_, run_underlying ht, sizeOf, typeInfo, hi, Builtin.lenOf, Builtin.firstCells]
  · simp [Builtin.append_, run_underlying ht, sizeOf, typeInfo, hi, Builtin.lenOf, Builtin.firstCells, hnc, storeCells]
theorem rowP_one (l : List (Int × ByteArray)) : ∀ u ∈ rowP l, u.oneCell' = true := by
  induction l with
  | nil => intro u hu; cases hu
  | cons p r ih =>
    intro u hu
    have e : rowP (p :: r) = .int .i64 p.1 :: .string p.2 :: rowP r := rfl
    rw [e] at hu
    rcases List.mem_cons.1 hu with rfl | hu
    · rfl
    · rcases List.mem_cons.1 hu with rfl | hu
      · rfl
      · exact ih u hu
theorem rowP_at (l : List (Int × ByteArray)) (i : Nat) (h : i < l.length) : (rowP l)[i * 2]? = some (.int .i64 l[i].1) ∧ (rowP l)[i * 2 + 1]? = some (.string l[i].2) := by
  induction l generalizing i with
  | nil => simp at h
  | cons p r ih =>
    have e : rowP (p :: r) = .int .i64 p.1 :: .string p.2 :: rowP r := rfl
    rw [e]
    cases i with
    | zero => exact ⟨rfl, rfl⟩
    | succ i =>
      have := ih i (by simpa using h)
      rw [show (i + 1) * 2 = i * 2 + 1 + 1 by omega]
      simpa using this
theorem pairs_news {w : World} {g o : Nat} {l : List (Int × ByteArray)} (h : ∀ i (hi : i < l.length), w.cell? ⟨g, o + i * 2, none⟩ = some (.int .i64 l[i].1) ∧ w.cell? ⟨g, o + i * 2 + 1, none⟩ = some (.string l[i].2)) : ∀ j u, (rowP l)[j]? = some u → w.cell? ((⟨g, o, none⟩ : Addr).add j) = some u := by
  intro j u hj
  have hjl : j < l.length * 2 := by
    have := (List.getElem?_eq_some_iff.1 hj).1
    rwa [rowP_len] at this
  have e : (⟨g, o, none⟩ : Addr).add j = ⟨g, o + j, none⟩ := by
    unfold Addr.add
    split
    · rename_i h; subst h; rfl
    · rfl
  have hq : j / 2 < l.length := by omega
  obtain ⟨r1, r2⟩ := rowP_at l (j / 2) hq
  obtain ⟨d1, d2⟩ := h (j / 2) hq
  rw [e]
  by_cases hm : j % 2 = 0
  · have e1 : j = j / 2 * 2 := by omega
    rw [← e1] at r1
    rw [show o + j = o + j / 2 * 2 by omega, d1, ← r1, hj]
  · have e1 : j = j / 2 * 2 + 1 := by omega
    rw [← e1] at r2
    rw [show o + j = o + j / 2 * 2 + 1 by omega, d2, ← r2, hj]
/-- append of texts to a row of one's own -/
theorem wpList_append_pairs {w : World} {ops : Array Oper} {rest : List Oper} {o : Oper} {a : Act} {Q : Exit → Act → World → Prop}
    (hg : o.guard = none) (s x : Operand) (hop : o.op = .call { callee := .builtin .append, args := #[s, x], argTypes := #[26, 26] })
    (base : Nat) (v : Value) (n : Nat) (xs : List Value) (hs : a.eval s = v) (hown : w.ownsRow base 89 2 v n xs)
    (ad : Option Addr) (c : Nat) (l : List (Int × ByteArray)) (hx : a.eval x = .slice ad l.length c) (hl : ScoresAt w ad l) (h63 : n + l.length ≤ 2000000) (hbase : base ≤ w.heap.size)
    (hK : ∀ v' w', w'.ownsRow base 89 2 v' (n + l.length) (xs ++ rowP l) → w.grownBy w' v.ownBlock → wpList Tryz.prog ops Q rest (a.put o.dst v') w') :
    wpList Tryz.prog ops Q (o :: rest) a w := by
  obtain ⟨i0, hi, hz0, hz1, hz2⟩ := info_parts infoScore
  refine wpList_plain hg fun K' hK' => ?_
  cases ad with
  | none =>
    obtain rfl : l = [] := by
      rcases hl with h | ⟨g, o, h, _⟩
      · exact h
      · cases h
    have hr := run_append_noneP Tryz.prog w base 26 o.type 89 i0 2 Tryz.underlying26 hi v n xs hown c
    unfold Oper.wp execOp
    simp only [hop, resolve, invoke, builtin, Sem.run_bind, Sem.run_pure, Result.andThen_ok, List.map_toArray, List.map_cons, List.map_nil, hs, hx, List.length_nil, hr]
    exact hK' _ _ (hK v w (by simpa [rowP] using hown) (World.grownBy.refl _ _))
  | some ad =>
    refine wp_append_own (P := Tryz.prog) w s x 26 hop base 89 i0 (.agg #[.int .i64 0, .string ⟨#[]⟩]) 2 24 Tryz.underlying26 hi hz0 hz1 hz2 rfl (by decide) v n xs hs hown ad l.length c (rowP l) hx (by rw [rowP_len]) ?_ (rowP_one l) (by unfold maxLen; omega) (by omega) hbase ?_
    · rcases hl with h | ⟨g, o, h, hc⟩
      · subst h
        intro j u hj
        simp [rowP] at hj
      · injection h with h
        subst h
        exact pairs_news hc
    · intro v' w' h1 h2 _
      exact hK' _ _ (hK v' w' h1 h2)

/-- append of so many noughts to nothing -/
theorem wpList_append_zerosP {w : World} {ops : Array Oper} {rest : List Oper} {o : Oper} {a : Act} {Q : Exit → Act → World → Prop}
    (hg : o.guard = none) (s x : Operand) (hop : o.op = .call { callee := .builtin .append, args := #[s, x], argTypes := #[26, 3] })
    (n : Nat) (hs : a.eval s = .slice none 0 0) (hx : a.eval x = .int .i64 n) (h0 : 0 < n) (hn : n ≤ 2000000)
    (hK : ∀ w' cap, n ≤ cap → w'.ownsRow w.heap.size 89 2 (.slice (some ⟨w.heap.size, 0, none⟩) 0 cap) 0 [] → Below w.heap.size w w' → wpList Tryz.prog ops Q rest (a.put o.dst (.slice (some ⟨w.heap.size, 0, none⟩) n cap)) w') :
    wpList Tryz.prog ops Q (o :: rest) a w := by
  obtain ⟨i0, hi, hz0, hz1, hz2⟩ := info_parts infoScore
  refine wpList_plain hg fun K' hK' => ?_
  have hr := Lib.run_append_nil_zeros (P := Tryz.prog) w 26 3 o.type 89 i0 (.agg #[.int .i64 0, .string ⟨#[]⟩]) .i64 .i64 Tryz.underlying26 Tryz.underlying3 hi hz0 n h0 (by omega) (by omega) (by rw [hz2]; omega)
  unfold Oper.wp execOp
  simp only [hop, resolve, invoke, builtin, Sem.run_bind, Sem.run_pure, Result.andThen_ok, List.map_toArray, List.map_cons, List.map_nil, hs, hx, hr]
  have hge := grownCap_ge w n 0 89
  have hle := grownCap_le_maxLen w n 0 89 (by unfold maxLen; omega)
  generalize grownCap w n 0 89 = cap at *
  refine hK' _ _ (hK _ cap hge ?_ ((Below.refl _ _).drew.alloc (Nat.le_refl _) _))
  have := World.ownsRow_made (base := w.heap.size) (e := 89) (size := 2) w.drew (Builtin.zeroCells (Value.agg #[.int .i64 0, .string ⟨#[]⟩]).cells n ++ Builtin.zeroCells (Value.agg #[.int .i64 0, .string ⟨#[]⟩]).cells (cap - n)) cap (Nat.le_refl _) hle (by
    rw [Array.size_append, size_zeroCells, size_zeroCells]
    have : (Value.agg #[.int .i64 0, .string ⟨#[]⟩]).cells.size = 2 := rfl
    rw [this]
    omega)
  exact this

set_option maxRecDepth 100000 in
set_option maxHeartbeats 1000000 in
theorem growP_any (n : Nat) (w : World) (h0 : 0 < n) (hn : n ≤ 2000000) : Calls Tryz.prog 220 #[.slice none 0 0, .int .i64 n] w fun e w' => ∃ cap, e = .returned (.slice (some ⟨w.heap.size, 0, none⟩) 0 cap) ∧ w'.ownsRow w.heap.size 89 2 (.slice (some ⟨w.heap.size, 0, none⟩) 0 cap) 0 [] ∧ Below w.heap.size w w' := by
  have h1 : ¬ ((n : Nat) : Int) < 0 := by omega
  have h2 : (0 : Int) < ((n : Nat) : Int) := by omega
  go_enter Tryz.func220, Tryz.ntmps220
  go_wp2_with (at_builtin; refine wpList_append_zerosP rfl _ _ rfl n rfl rfl h0 hn ?_)
  intro w' cap hcap hown hb
  have hc0 : (0 : Int) ≤ ((cap : Nat) : Int) := by omega
  go_wp2_with fail
  go_ret
  exact ⟨cap, rfl, hown, hb⟩

set_option maxRecDepth 100000 in
set_option maxHeartbeats 2000000 in
theorem concatP_any (g : Nat) (a1 a2 : Option Addr) (c1 c2 : Nat) (l1 l2 : List (Int × ByteArray)) (w : World) (h0 : w.cell? ⟨g, 0, none⟩ = some (.slice a1 l1.length c1)) (h1 : w.cell? ⟨g, 1, none⟩ = some (.slice a2 l2.length c2))
    (hl1 : ScoresAt w a1 l1) (hl2 : ScoresAt w a2 l2) (hpos : 0 < l1.length + l2.length) (hn : l1.length + l2.length ≤ 2000000) :
    Calls Tryz.prog 165 #[.slice (some ⟨g, 0, none⟩) 2 2] w fun e w' => ∃ v, e = .returned v ∧ w'.ownsRow w.heap.size 89 2 v (l1 ++ l2).length (rowP (l1 ++ l2)) ∧ Below w.heap.size w w' := by
  have hgl : g < w.heap.size := World.block_lt_of_cell? _ _ h0
  have H1 := hide hl1
  have H2 := hide hl2
  clear hl1 hl2
  have HG : Hid (Calls Tryz.prog 220 #[.slice none 0 0, .int .i64 (((l1.length : Nat) : Int) + ((l2.length : Nat) : Int))] w fun e w' => ∃ cap, e = .returned (.slice (some ⟨w.heap.size, 0, none⟩) 0 cap) ∧ w'.ownsRow w.heap.size 89 2 (.slice (some ⟨w.heap.size, 0, none⟩) 0 cap) 0 [] ∧ Below w.heap.size w w') := by
    have hh := growP_any (l1.length + l2.length) w hpos hn
    rw [Int.natCast_add] at hh
    exact hh
  have n1 : ¬ ((l1.length : Nat) : Int) < 0 := by omega
  have n2 : ¬ ((l1.length : Nat) : Int) + ((l2.length : Nat) : Int) < 0 := by omega
  go_enter Tryz.func165, Tryz.ntmps165
  go_wp2_with fail
  refine wp_loop_rounds 3 ?_
  rw [rounds_succ]
  go_wp2_with fail
  rw [rounds_succ]
  go_wp2_with fail
  rw [rounds_succ]
  go_wp2_with fail
  refine HG.out.mono ?_
  rintro e w1 ⟨cap, rfl, hown1, hb1⟩
  have e0 : w1.cell? ⟨g, 0, none⟩ = some (.slice a1 l1.length c1) := (hb1.cell (p := ⟨g, 0, none⟩) hgl).trans h0
  have e1 : w1.cell? ⟨g, 1, none⟩ = some (.slice a2 l2.length c2) := (hb1.cell (p := ⟨g, 1, none⟩) hgl).trans h1
  have hz1 := hb1.size
  go_wp2_with fail
  refine wp_loop_rounds 3 ?_
  rw [rounds_succ]
  go_wp2_with (at_builtin; refine wpList_append_pairs rfl _ _ rfl w.heap.size _ 0 [] rfl hown1 a1 c1 l1 rfl (H1.out.below hb1) (by omega) hz1 ?_)
  intro v2 w2 hown2 hg2
  have hb2 : Below w.heap.size w w2 := hb1.grown hg2 hz1 (fun j hj => (hown1.lt j hj).1)
  have hz2 := hb2.size
  have k0 : w2.cell? ⟨g, 0, none⟩ = some (.slice a1 l1.length c1) := (hb2.cell (p := ⟨g, 0, none⟩) hgl).trans h0
  have k1 : w2.cell? ⟨g, 1, none⟩ = some (.slice a2 l2.length c2) := (hb2.cell (p := ⟨g, 1, none⟩) hgl).trans h1
  go_wp2_with fail
  rw [rounds_succ]
  go_wp2_with (at_builtin; refine wpList_append_pairs rfl _ _ rfl w.heap.size _ _ _ rfl hown2 a2 c2 l2 rfl (H2.out.below hb2) (by omega) hz2 ?_)
  intro v3 w3 hown3 hg3
  have hb3 : Below w.heap.size w w3 := hb2.grown hg3 hz2 (fun j hj => (hown2.lt j hj).1)
  go_wp2_with fail
  rw [rounds_succ]
  go_wp2_with fail
  go_ret
  refine ⟨v3, rfl, ?_, hb3⟩
  simpa [rowP] using hown3
set_option maxRecDepth 100000 in
set_option maxHeartbeats 1000000 in
theorem growP_zero (w : World) : Calls Tryz.prog 220 #[.slice none 0 0, .int .i64 0] w fun e w' => e = .returned (.slice none 0 0) ∧ Below w.heap.size w w' := by
  go_enter Tryz.func220, Tryz.ntmps220
  go_wp2_with fail
  go_ret
  exact ⟨rfl, Below.refl _ _⟩
set_option maxRecDepth 100000 in
set_option maxHeartbeats 2000000 in
/-- nothing, and nothing behind it -/
theorem concatP_none (g : Nat) (a1 a2 : Option Addr) (c1 c2 : Nat) (w : World) (h0 : w.cell? ⟨g, 0, none⟩ = some (.slice a1 0 c1)) (h1 : w.cell? ⟨g, 1, none⟩ = some (.slice a2 0 c2)) :
    Calls Tryz.prog 165 #[.slice (some ⟨g, 0, none⟩) 2 2] w fun e w' => ∃ v, e = .returned v ∧ w'.ownsRow w.heap.size 89 2 v 0 [] ∧ Below w.heap.size w w' := by
  have hgl : g < w.heap.size := World.block_lt_of_cell? _ _ h0
  obtain ⟨i0, hi, hz0, hz1, hz2⟩ := info_parts infoScore
  have HG := hide (growP_zero w)
  go_enter Tryz.func165, Tryz.ntmps165
  go_wp2_with fail
  refine wp_loop_rounds 3 ?_
  rw [rounds_succ]
  go_wp2_with fail
  rw [rounds_succ]
  go_wp2_with fail
  rw [rounds_succ]
  go_wp2_with fail
  refine HG.out.mono ?_
  rintro e w1 ⟨rfl, hb1⟩
  have e0 : w1.cell? ⟨g, 0, none⟩ = some (.slice a1 0 c1) := (hb1.cell (p := ⟨g, 0, none⟩) hgl).trans h0
  have e1 : w1.cell? ⟨g, 1, none⟩ = some (.slice a2 0 c2) := (hb1.cell (p := ⟨g, 1, none⟩) hgl).trans h1
  go_wp2_with fail
  refine wp_loop_rounds 3 ?_
  rw [rounds_succ]
  go_wp2_with (at_builtin; refine wpList_append_pairs rfl _ _ rfl w.heap.size _ 0 [] rfl (World.ownsRow_nil _ _ _ _) a1 c1 [] rfl (.inl rfl) (by simp) hb1.size ?_)
  intro v2 w2 hown2 hg2
  have hb2 : Below w.heap.size w w2 := hb1.grown hg2 hb1.size (fun j hj => by simp [Value.ownBlock] at hj)
  have k0 : w2.cell? ⟨g, 0, none⟩ = some (.slice a1 0 c1) := (hb2.cell (p := ⟨g, 0, none⟩) hgl).trans h0
  have k1 : w2.cell? ⟨g, 1, none⟩ = some (.slice a2 0 c2) := (hb2.cell (p := ⟨g, 1, none⟩) hgl).trans h1
  have hz2 := hb2.size
  have hown2' : w2.ownsRow w.heap.size 89 2 v2 0 [] := hown2
  go_wp2_with fail
  rw [rounds_succ]
  go_wp2_with (at_builtin; refine wpList_append_pairs rfl _ _ rfl w.heap.size _ _ _ rfl hown2' a2 c2 [] rfl (.inl rfl) (by simp) hz2 ?_)
  intro v3 w3 hown3 hg3
  have hb3 : Below w.heap.size w w3 := hb2.grown hg3 hz2 (fun j hj => (hown2'.lt j hj).1)
  go_wp2_with fail
  rw [rounds_succ]
  go_wp2_with fail
  go_ret
  exact ⟨v3, rfl, hown3, hb3⟩
theorem concatP_all (g : Nat) (a1 a2 : Option Addr) (c1 c2 : Nat) (l1 l2 : List (Int × ByteArray)) (w : World) (h0 : w.cell? ⟨g, 0, none⟩ = some (.slice a1 l1.length c1)) (h1 : w.cell? ⟨g, 1, none⟩ = some (.slice a2 l2.length c2))
    (hl1 : ScoresAt w a1 l1) (hl2 : ScoresAt w a2 l2) (hn : l1.length + l2.length ≤ 2000000) :
    Calls Tryz.prog 165 #[.slice (some ⟨g, 0, none⟩) 2 2] w fun e w' => ∃ v, e = .returned v ∧ w'.ownsRow w.heap.size 89 2 v (l1 ++ l2).length (rowP (l1 ++ l2)) ∧ Below w.heap.size w w' := by
  by_cases hp : 0 < l1.length + l2.length
  · exact concatP_any g a1 a2 c1 c2 l1 l2 w h0 h1 hl1 hl2 hp hn
  · obtain rfl : l1 = [] := List.eq_nil_of_length_eq_zero (by omega)
    obtain rfl : l2 = [] := List.eq_nil_of_length_eq_zero (by omega)
    exact concatP_none g a1 a2 c1 c2 w h0 h1
end Go.Proofs.YtcidoodaiimhfaaGreat.Z

/- Library contracts, laid at this program. -/
namespace Go.Proofs
open Go.Shelf
def Tryz.laySortScore_ren : Go.Shelf.Ren := ⟨fun | 6 => 222 | 15 => 158 | 14 => 242 | 28 => 214 | 29 => 215 | 20 => 259 | 21 => 260 | 22 => 261 | 23 => 262 | 24 => 263 | 25 => 264 | 26 => 265 | 27 => 266 | 46 => 275 | 47 => 234 | 48 => 235 | 49 => 276 | 50 => 277 | 57 => 279 | n => n, fun | 22 => 26 | 24 => 89 | 25 => 190 | 3 => 3 | 39 => 173 | 0 => 0 | 53 => 231 | 55 => 233 | 4 => 4 | 46 => 225 | 45 => 224 | 50 => 93 | 5 => 5 | 9 => 9 | 66 => 249 | 70 => 253 | 76 => 266 | 77 => 109 | n => n, fun | n => n⟩
theorem Tryz.laySortScore : Go.Proofs.SlLaysF0.n6 Tryz.prog Tryz.laySortScore_ren := {
  mixed := by kernel_rfl
  f6 := ⟨Tryz.f222.name, by decide, Tryz.func222.trans (congrArg some (by kernel_rfl))⟩
  f14 := ⟨Tryz.f242.name, by decide, Tryz.func242.trans (congrArg some (by kernel_rfl))⟩
  f15 := Tryz.func158.trans (congrArg some (by kernel_rfl))
  f20 := ⟨Tryz.f259.name, by decide, Tryz.func259.trans (congrArg some (by kernel_rfl))⟩
  f21 := ⟨Tryz.f260.name, by decide, Tryz.func260.trans (congrArg some (by kernel_rfl))⟩
  f22 := ⟨Tryz.f261.name, by decide, Tryz.func261.trans (congrArg some (by kernel_rfl))⟩
  f23 := ⟨Tryz.f262.name, by decide, Tryz.func262.trans (congrArg some (by kernel_rfl))⟩
  f24 := ⟨Tryz.f263.name, by decide, Tryz.func263.trans (congrArg some (by kernel_rfl))⟩
  f25 := ⟨Tryz.f264.name, by decide, Tryz.func264.trans (congrArg some (by kernel_rfl))⟩
  f26 := ⟨Tryz.f265.name, by decide, Tryz.func265.trans (congrArg some (by kernel_rfl))⟩
  f27 := ⟨Tryz.f266.name, by decide, Tryz.func266.trans (congrArg some (by kernel_rfl))⟩
  f28 := Tryz.func214.trans (congrArg some (by kernel_rfl))
  f29 := Tryz.func215.trans (congrArg some (by kernel_rfl))
  f46 := ⟨Tryz.f275.name, by decide, Tryz.func275.trans (congrArg some (by kernel_rfl))⟩
  f47 := Tryz.func234.trans (congrArg some (by kernel_rfl))
  f48 := Tryz.func235.trans (congrArg some (by kernel_rfl))
  f49 := ⟨Tryz.f276.name, by decide, Tryz.func276.trans (congrArg some (by kernel_rfl))⟩
  f50 := ⟨Tryz.f277.name, by decide, Tryz.func277.trans (congrArg some (by kernel_rfl))⟩
  f57 := ⟨Tryz.f279.name, by decide, Tryz.func279.trans (congrArg some (by kernel_rfl))⟩
  t0 := Tryz.underlying0
  a0 := Tryz.isAgg0
  z0 := Tryz.sizeOf0
  v0 := Tryz.zeroValue0
  t3 := Tryz.underlying3
  a3 := Tryz.isAgg3
  z3 := Tryz.sizeOf3
  v3 := Tryz.zeroValue3
  t4 := Tryz.underlying4
  a4 := Tryz.isAgg4
  z4 := Tryz.sizeOf4
  v4 := Tryz.zeroValue4
  t5 := Tryz.underlying5
  a5 := Tryz.isAgg5
  z5 := Tryz.sizeOf5
  v5 := Tryz.zeroValue5
  t9 := Tryz.underlying9
  a9 := Tryz.isAgg9
  z9 := Tryz.sizeOf9
  v9 := Tryz.zeroValue9
  t22 := Tryz.underlying26
  a22 := Tryz.isAgg26
  z22 := Tryz.sizeOf26
  v22 := Tryz.zeroValue26
  t25 := Tryz.underlying190
  a25 := Tryz.isAgg190
  z25 := Tryz.sizeOf190
  v25 := Tryz.zeroValue190
  t39 := Tryz.underlying173
  a39 := Tryz.isAgg173
  z39 := Tryz.sizeOf173
  v39 := Tryz.zeroValue173
  t45 := Tryz.underlying224
  a45 := Tryz.isAgg224
  z45 := Tryz.sizeOf224
  v45 := Tryz.zeroValue224
  t46 := Tryz.underlying225
  a46 := Tryz.isAgg225
  z46 := Tryz.sizeOf225
  v46 := Tryz.zeroValue225
  t50 := Tryz.underlying93
  a50 := Tryz.isAgg93
  z50 := Tryz.sizeOf93
  v50 := Tryz.zeroValue93
  t53 := Tryz.underlying231
  a53 := Tryz.isAgg231
  z53 := Tryz.sizeOf231
  v53 := Tryz.zeroValue231
  t55 := Tryz.underlying233
  a55 := Tryz.isAgg233
  z55 := Tryz.sizeOf233
  v55 := Tryz.zeroValue233
  t66 := Tryz.underlying249
  a66 := Tryz.isAgg249
  z66 := Tryz.sizeOf249
  v66 := Tryz.zeroValue249
  t70 := Tryz.underlying253
  a70 := Tryz.isAgg253
  z70 := Tryz.sizeOf253
  v70 := Tryz.zeroValue253
  t76 := Tryz.underlying266
  a76 := Tryz.isAgg266
  z76 := Tryz.sizeOf266
  v76 := Tryz.zeroValue266
  t77 := Tryz.underlying109
  a77 := Tryz.isAgg109
  z77 := Tryz.sizeOf109
  v77 := Tryz.zeroValue109 }
def Tryz.layIdxScore_ren : Go.Shelf.Ren := ⟨fun | 6 => 150 | n => n, fun | 22 => 26 | 23 => 89 | 25 => 129 | 3 => 3 | 0 => 0 | 4 => 4 | n => n, fun | n => n⟩
theorem Tryz.layIdxScore : Go.Proofs.SlLaysH0.n6 Tryz.prog Tryz.layIdxScore_ren := {
  mixed := by kernel_rfl
  f6 := ⟨Tryz.f150.name, by decide, Tryz.func150.trans (congrArg some (by kernel_rfl))⟩
  t0 := Tryz.underlying0
  a0 := Tryz.isAgg0
  z0 := Tryz.sizeOf0
  v0 := Tryz.zeroValue0
  t3 := Tryz.underlying3
  a3 := Tryz.isAgg3
  z3 := Tryz.sizeOf3
  v3 := Tryz.zeroValue3
  t4 := Tryz.underlying4
  a4 := Tryz.isAgg4
  z4 := Tryz.sizeOf4
  v4 := Tryz.zeroValue4
  t22 := Tryz.underlying26
  a22 := Tryz.isAgg26
  z22 := Tryz.sizeOf26
  v22 := Tryz.zeroValue26
  t25 := Tryz.underlying129
  a25 := Tryz.isAgg129
  z25 := Tryz.sizeOf129
  v25 := Tryz.zeroValue129 }
end Go.Proofs

/- Pairs in the order of their fields: slices.SortFunc with together's literal; Collect; SortedFunc. -/
namespace Go.Proofs.YtcidoodaiimhfaaGreat.Z
open Go.RowKit Go.Shelf Go.Lib Go.Sort

def encL (p : Int × ByteArray) : List Value := [.int .i64 p.1, .string p.2]
def cfP (p q : Int × ByteArray) : Int := cmpS p q
theorem ltP (x y : Int × ByteArray) : ltOf cfP x y = true ↔ lessS x y := by
  unfold ltOf cfP
  rw [decide_eq_true_iff]
  exact cmpS_lt _ _
theorem ltP_not (x y : Int × ByteArray) : ltOf cfP x y = false ↔ ¬ lessS x y := by
  rw [← ltP]; simp
theorem swoP : SWO (ltOf cfP) where
  irrefl x := (ltP_not x x).2 (lessS_irrefl _)
  trans x y z h1 h2 := (ltP x z).2 (lessS_trans ((ltP x y).1 h1) ((ltP y z).1 h2))
  ntrans x y z h1 h2 := by
    rw [ltP_not] at *
    intro h3
    rcases lessS_or x y with h | h | h
    · exact h1 h
    · exact h2 (h ▸ h3)
    · exact h2 (lessS_trans h h3)

set_option maxRecDepth 100000 in
set_option maxHeartbeats 1000000 in
theorem togCmp_any (x y : Int × ByteArray) (w : World) : Calls Tryz.prog 168 #[.agg (encL x).toArray, .agg (encL y).toArray] w fun e w' => e = .returned (.int .i64 (cfP x y)) ∧ ∃ k os, w' = grow (w.drewN k) os := by
  unfold encL cfP
  rw [← cmpS_or]
  obtain ⟨x1, x2⟩ := x
  obtain ⟨y1, y2⟩ := y
  have HA : Hid (∀ W, Calls Tryz.prog 170 #[.int .i64 x1, .int .i64 y1] W fun e w' => e = .returned (.int .i64 (cmpN x1 y1)) ∧ w' = W) := fun W => cmpInt_any _ _ W
  have HT : Hid (∀ W, Calls Tryz.prog 133 #[.string x2, .string y2] W fun e w' => e = .returned (.int .i64 (cmpT x2 y2)) ∧ w' = W) := fun W => compare_any _ _ W
  simp only
  generalize cmpN x1 y1 = C1 at *
  generalize cmpT x2 y2 = C2 at *
  go_enter Tryz.func168, Tryz.ntmps168
  go_wp2_with fail
  go_region_held3 (fun w' => w'.cell? ⟨w.heap.size, 0, none⟩ = some (.int .i64 x1) ∧ w'.cell? ⟨w.heap.size, 1, none⟩ = some (.string x2) ∧ w'.cell? ⟨w.heap.size + 1, 0, none⟩ = some (.int .i64 y1) ∧ w'.cell? ⟨w.heap.size + 1, 1, none⟩ = some (.string y2)) (go_keep)
    ((first | (go_at_call 170; refine (HA.out _).mono ?_; rintro e w2 ⟨rfl, rfl⟩) | (go_at_call 133; refine (HT.out _).mono ?_; rintro e w2 ⟨rfl, rfl⟩) | (go_at_call 169; refine (orInt_any _ C1 C2 _ (by go_simp) (by go_simp)).mono ?_; rintro e w2 ⟨rfl, rfl⟩)))
  all_goals
    go_wp2_with fail
    go_ret
    exact ⟨rfl, 1, _, by simp only [alloc_eq_grow, grow_grow, drew_grow]; rfl⟩
theorem isAggP (w : World) : (isAgg 89).run Tryz.prog w = .ok true w := by kernel_rfl
theorem sizeOfP (w : World) : (Go.sizeOf 89).run Tryz.prog w = .ok 2 w := by kernel_rfl
theorem grownBy_sortK {w : World} {g n : Nat} {os : Array Obj} (d : Array (Int × ByteArray)) : w.grownBy (sortWorldK encL 2 w g 0 n d os) (some g) := by
  refine ⟨rfl, rfl, rfl, size_sortWorldK_c _ _ _ _ _ _ _ _, fun k hk hne => ?_⟩
  unfold sortWorldK
  rw [heap_grow_old _ _ (by simpa [putRowK, putRow, mapBlock] using hk)]
  have : g ≠ k := fun e => hne (by rw [e])
  simp [putRowK, putRow, mapBlock, Sort.ahead, Array.getElem?_modify, this]
theorem flat_at (xs : List (Int × ByteArray)) (j : Nat) (hj : j < xs.length * 2) : (rowP xs)[j]? = some (flatK encL 2 xs.toArray)[j]! := by
  have hq : j / 2 < xs.length := by omega
  obtain ⟨r1, r2⟩ := rowP_at xs (j / 2) hq
  have e : (flatK encL 2 xs.toArray)[j]! = (encL xs[j / 2])[j % 2]! := by
    unfold flatK
    rw [getElem!_pos _ j (by simpa using hj)]
    simp [hq]
  rw [e]
  by_cases hm : j % 2 = 0
  · have e1 : j / 2 * 2 = j := by omega
    rw [e1] at r1
    rw [r1, hm]; rfl
  · have e1 : j / 2 * 2 + 1 = j := by omega
    rw [e1] at r2
    rw [r2, show j % 2 = 1 by omega]; rfl
/-- pairs that lie in memory from a block on: they stay as long as that does -/
def PairsFrom (B : Nat) (w : World) (a : Option Addr) (ms : List (Int × ByteArray)) : Prop := ∀ W', (∀ g o u, B ≤ g → w.cell? ⟨g, o, none⟩ = some u → w.frozen? ⟨g, o, none⟩ = false → W'.cell? ⟨g, o, none⟩ = some u) → ScoresAt W' a ms
theorem PairsFrom.of {B : Nat} {w : World} {g o : Nat} {ms : List (Int × ByteArray)} (h : ScoresAt w (some ⟨g, o, none⟩) ms) (hB : B ≤ g) (hf : ∀ i, i < ms.length → w.frozen? ⟨g, o + i * 2, none⟩ = false ∧ w.frozen? ⟨g, o + i * 2 + 1, none⟩ = false) : PairsFrom B w (some ⟨g, o, none⟩) ms := fun W' hW => by
  rcases h with h | ⟨g', o', e, hc⟩
  · exact .inl h
  · obtain ⟨rfl, rfl⟩ : g = g' ∧ o = o' := by simpa using e
    exact .inr ⟨g, o, rfl, fun i hi => ⟨hW _ _ _ hB (hc i hi).1 (hf i hi).1, hW _ _ _ hB (hc i hi).2 (hf i hi).2⟩⟩
theorem PairsFrom.mono {B B0 : Nat} {w : World} {a : Option Addr} {ms : List (Int × ByteArray)} (h : PairsFrom B w a ms) (hB : B0 ≤ B) : PairsFrom B0 w a ms := fun W' hW => h W' fun g o u hg => hW g o u (by omega)
theorem PairsFrom.none (B : Nat) (w : World) (a : Option Addr) : PairsFrom B w a [] := fun _ _ => .inl rfl
theorem sortP_any (base g cap : Nat) (xs : List (Int × ByteArray)) (w : World) (hown : w.ownsRow base 89 2 (.slice (some ⟨g, 0, none⟩) xs.length cap) xs.length (rowP xs)) (hn : xs.length ≤ 2000000) :
    Calls Tryz.prog 222 #[.slice (some ⟨g, 0, none⟩) xs.length cap, .func (.func 168) #[] #[]] w fun e w' => e = .returned (.tuple #[]) ∧ ∃ ys : List (Int × ByteArray), ys.Perm xs ∧ ys.Pairwise (fun a b => ¬ lessS b a) ∧ PairsFrom base w' (some ⟨g, 0, none⟩) ys ∧ Below base w w' := by
  have hlt := hown.lt g rfl
  have hH : HoldsK encL 2 w g 0 xs.toArray := by
    intro j hj
    have hj' : j < xs.length * 2 := by simpa using hj
    refine ⟨?_, ?_⟩
    · rw [Nat.zero_add, hown.cellAt j hj', flat_at xs j hj']; rfl
    · rcases hown.2 with ⟨h, _⟩ | ⟨g', cap', cur, h, _, hg, _⟩
      · cases h
      · obtain rfl : g = g' := (by simpa using h : g = g' ∧ cap = cap').1
        simp [World.frozen?, hg]
  have eg : ∀ args w, (callFunc 168 args).run Tryz.prog w = .ok (.enter 168 args) w := enters_of Tryz.func168 (by kernel_rfl) rfl
  have hcon := AnyQ.slices_SortFunc Tryz.laySortScore 2 isAggP sizeOfP encL (fun _ => rfl) (fun x v hv => by simp [encL] at hv; rcases hv with rfl | rfl <;> rfl) cfP swoP 168 #[] g 0 cap xs.toArray w eg (fun _ _ _ _ x y => togCmp_any x y _) hH hlt.2 (by simp; omega)
  refine hcon.mono ?_
  rintro e w' ⟨rfl, d', n, os, hp, hs, rfl⟩
  have hds : d'.size = xs.length := by rw [hp.1]; simp
  refine ⟨rfl, d'.toList, ?_, ?_, ?_, ?_⟩
  · have := hp.2.2
    have e9 : List.take xs.length d'.toList = d'.toList := List.take_of_length_le (by simp [hds])
    simpa [hds, e9] using this
  · rw [List.pairwise_iff_getElem]
    intro i j hi hj hij
    have h1 := hs i j (Nat.zero_le _) hij (by simpa [hds] using hj)
    rw [ltP_not] at h1
    simpa [show i < d'.size by simpa using hi, show j < d'.size by simpa using hj] using h1
  · have hK := holdsK_sortWorldK_c encL 2 w g 0 xs.toArray d' n os hH hlt.2 (by simp [hds])
    refine PairsFrom.of (.inr ⟨g, 0, rfl, fun i hi => ?_⟩) hlt.1 (fun i hi => ⟨by have hi' : i < d'.size := by simpa using hi
                                                                                  have c0 := (hK.cell hi' (show 0 < 2 by omega)).2
                                                                                  rwa [show 0 + i * 2 + 0 = 0 + i * 2 by omega] at c0, (hK.cell (show i < d'.size by simpa using hi) (show 1 < 2 by omega)).2⟩)
    have hi' : i < d'.size := by simpa using hi
    have c0 := (hK.cell hi' (show 0 < 2 by omega)).1
    have c1 := (hK.cell hi' (show 1 < 2 by omega)).1
    refine ⟨?_, ?_⟩
    · rw [show 0 + i * 2 + 0 = 0 + i * 2 by omega] at c0
      rw [c0]; simp [encL, hi']
    · rw [c1]; simp [encL, hi']
  · exact (Below.refl _ _).grown (grownBy_sortK d') (Nat.le_of_lt (Nat.lt_of_le_of_lt hlt.1 hlt.2)) (fun k hk => by cases hk; exact hlt.1)
theorem sortP_none (a : Option Addr) (cap : Nat) (w : World) : Calls Tryz.prog 222 #[.slice a 0 cap, .func (.func 168) #[] #[]] w fun e w' => e = .returned (.tuple #[]) ∧ w' = w :=
  AnyF.slices_SortFunc_none Tryz.laySortScore a cap _ w

section
variable (gf : Nat) (eg : ∀ args w, (callFunc gf args).run Tryz.prog w = .ok (.enter gf args) w) (lb : Array Value) (S Sp : List (Int × ByteArray) → Prop) (N : Nat) (hN : N ≤ 2000000) (w : World) (hseq : SeqStops Fence.wide 3 Tryz.prog gf lb encPr S Sp N w)
include eg hN hseq
set_option maxRecDepth 100000 in
theorem collectP_any : Calls Tryz.prog 221 #[.func (.func gf) #[] lb] w fun e W' => ∃ xs v, S xs ∧ e = .returned v ∧ W'.ownsRow w.heap.size 89 2 v xs.length (rowP xs) ∧ Below w.heap.size w W' := by
  have HA := hide ((callsIn_wide (n := 4)).1 (appendSeqP_in Fence.wide 4 trivial rfl (by omega) gf trivial eg lb S Sp N hN w hseq))
  go_enter Tryz.func221, Tryz.ntmps221
  go_wp2_with fail
  refine HA.out.mono ?_
  rintro e w1 ⟨xs, v, hS, rfl, hown, hb⟩
  go_wp2_with fail
  go_ret
  exact ⟨xs, v, hS, rfl, hown, hb⟩
set_option maxRecDepth 100000 in
set_option maxHeartbeats 1000000 in
theorem sortedP_any (hS2 : ∀ xs, S xs → xs.length ≤ 2000000) : Calls Tryz.prog 166 #[.func (.func gf) #[] lb, .func (.func 168) #[] #[]] w fun e W' => ∃ (xs ys : List (Int × ByteArray)) (a : Option Addr) (cap : Nat), S xs ∧ ys.Perm xs ∧ ys.Pairwise (fun a b => ¬ lessS b a) ∧ e = .returned (.slice a ys.length cap) ∧ PairsFrom w.heap.size W' a ys ∧ Below w.heap.size w W' := by
  have HA := hide (collectP_any gf eg lb S Sp N hN w hseq)
  have HS := hide hS2
  clear hseq eg hS2
  go_enter Tryz.func166, Tryz.ntmps166
  go_wp2_with fail
  refine HA.out.mono ?_
  rintro e w1 ⟨xs, v, hS, rfl, hown, hb⟩
  have hlen := HS.out xs hS
  rcases hown.2 with ⟨rfl, h0⟩ | ⟨g, cap, cur, rfl, hrest⟩
  · obtain rfl : xs = [] := List.eq_nil_of_length_eq_zero h0
    go_wp2_with fail
    refine (sortP_none _ _ _).mono ?_
    rintro e w2 ⟨rfl, rfl⟩
    go_wp2_with fail
    go_ret
    exact ⟨[], [], none, 0, hS, .refl _, .nil, rfl, PairsFrom.none _ _ _, hb⟩
  · clear hrest
    have HO := hide hown
    clear hown
    go_wp2_with fail
    refine (sortP_any _ g cap xs _ HO.out hlen).mono ?_
    rintro e w2 ⟨rfl, ys, hp, hs, hy, hb2⟩
    go_wp2_with fail
    go_ret
    exact ⟨xs, ys, _, cap, hS, hp, hs, by rw [hp.length_eq]; rfl, hy, hb.trans hb2⟩
end
end Go.Proofs.YtcidoodaiimhfaaGreat.Z

/- WALK of hashes: together. -/
namespace Go.Proofs.YtcidoodaiimhfaaGreat.Z
open Go.RowKit Go.Maps

/-- what the map holds: of each field the pair that was met last -/
structure Lasts (D : DataW Unit) (ms : List Sc) : Prop where
  at_ : ∀ f p, lastS ms f = some p → ∀ zd, D.atKey (.string f.data.toList) zd = datP p
  has_ : ∀ x : List UInt8, Maps.has D (.string x) = true ↔ ∃ p ∈ ms, p.2.data.toList = x
theorem Lasts.start : Lasts (.map []) [] := ⟨fun f p h => by simp [lastS] at h, fun x => by simp [Maps.has]⟩
theorem Lasts.step {D : DataW Unit} {ms : List Sc} (h : Lasts D ms) (hm : IsMap D) (p : Sc) : Lasts (D.put (.string p.2.data.toList) (datP p)) (ms ++ [p]) := by
  refine ⟨fun f q hq zd => ?_, fun x => ?_⟩
  · rw [lastS_snoc] at hq
    by_cases e : p.2 = f
    · subst e
      rw [if_pos rfl] at hq
      cases hq
      exact atKey_put_same hm (k := .string _) (by trivial) _ _
    · rw [if_neg e] at hq
      rw [atKey_put_other (by intro e2; injection e2 with e2; exact e (bytes_eq e2.symm)), h.at_ f q hq]
  · by_cases e : x = p.2.data.toList
    · subst e
      rw [has_put_same hm (k := .string _) (by trivial)]
      simp
    · rw [has_put_other (by intro e2; injection e2 with e2; exact e e2), h.has_]
      constructor
      · rintro ⟨q, hq, rfl⟩; exact ⟨q, by simp [hq], rfl⟩
      · rintro ⟨q, hq, rfl⟩
        rcases List.mem_append.1 hq with hq | hq
        · exact ⟨q, hq, rfl⟩
        · simp at hq; subst hq; exact absurd rfl e
/-- what the values come to, in order -/
theorem tog_values {D : DataW Unit} {there l : List Sc} (h : Lasts D (there ++ l)) (hr : RisesS there) (hU : OnceS there) {xs ys : List Sc} (hS : ∃ ps, AllP D ps ∧ xs = ps.map (·.2)) (hp : ys.Perm xs) (hs : ys.Pairwise fun a b => ¬ lessS b a) : ys = togS there l := by
  obtain ⟨ps, hA, rfl⟩ := hS
  obtain ⟨hn, -, h2, h3⟩ := hA
  have hval : ∀ q ∈ ps, lastS (there ++ l) q.2.2 = some q.2 ∧ q.2.2.data.toList = q.1 := by
    intro q hq
    obtain ⟨r, hr1, hr2⟩ := (h.has_ q.1).1 ((h2 q.1).1 (List.mem_map.2 ⟨q, hq, rfl⟩))
    obtain ⟨s, hs1⟩ := lastS_some hr1
    have e1 := h.at_ r.2 s hs1 (.nil)
    rw [hr2] at e1
    have e2 : datP q.2 = datP s := (h3 q hq .nil).symm.trans e1
    have e3 := datP_inj e2
    have e4 := lastS_member hs1
    rw [e3]
    exact ⟨by rw [e4]; exact hs1, by rw [e4]; exact hr2⟩
  have hmem : ∀ q, q ∈ ys ↔ q ∈ togS there l := by
    intro q
    rw [hp.mem_iff, mem_togS hU]
    constructor
    · intro hq
      obtain ⟨z, hz, rfl⟩ := List.mem_map.1 hq
      exact (hval z hz).1
    · intro hq
      have hk := (h2 q.2.data.toList).2 ((h.has_ _).2 ⟨q, lastS_mem hq, rfl⟩)
      obtain ⟨z, hz, ez⟩ := List.mem_map.1 hk
      obtain ⟨v1, v2⟩ := hval z hz
      have e1 : z.2.2 = q.2 := bytes_eq (v2.trans ez)
      rw [e1, hq] at v1
      exact List.mem_map.2 ⟨z, hz, (Option.some.inj v1).symm⟩
  have hfn : (ys.map (·.2)).Nodup := by
    have hx : ((ps.map (·.2)).map (·.2)).Nodup := by
      rw [List.map_map]
      have e : ps.map (·.1) = (ps.map ((·.2) ∘ (·.2))).map (fun b : ByteArray => b.data.toList) := by
        rw [List.map_map]
        exact List.map_congr_left fun q hq => (hval q hq).2.symm
      rw [e] at hn
      exact List.Pairwise.of_map _ (fun a b hab e => hab (by rw [e])) hn
    exact (hp.map _).nodup_iff.2 hx
  have hris : RisesS ys := by
    have h4 : ys.Pairwise fun a b => a.2 ≠ b.2 := by
      rw [List.Nodup, List.pairwise_map] at hfn
      exact hfn
    refine (hs.and h4).imp ?_
    rintro a b ⟨ha, hb⟩
    rcases lessS_or a b with h | h | h
    · exact h
    · exact absurd (by rw [h]) hb
    · exact absurd h ha
  exact risesS_unique hris (rises_togS hr l) hmem
theorem keyP {s : ByteArray} (h : s.size ≤ maxLen) : keyOf Tryz.prog 9 (.string s) = some (.string s.data.toList) := WideMaps.keyOf_string_mk Tryz.underlying9 h
theorem pairs_of_own {w : World} {base : Nat} {v : Value} {ms : List Sc} (h : w.ownsRow base 89 2 v ms.length (rowP ms)) : ∃ a cap, v = .slice a ms.length cap ∧ ScoresAt w a ms := by
  rcases h.2 with ⟨rfl, h0⟩ | ⟨g, cap, cur, rfl, _⟩
  · obtain rfl : ms = [] := List.eq_nil_of_length_eq_zero h0
    exact ⟨none, 0, rfl, .inl rfl⟩
  · refine ⟨_, cap, rfl, .inr ⟨g, 0, rfl, fun i hi => ?_⟩⟩
    obtain ⟨r1, r2⟩ := rowP_at ms i hi
    rw [Nat.zero_add]
    exact ⟨by rw [h.cellAt _ (by omega)]; exact r1, by rw [h.cellAt _ (by omega)]; exact r2⟩
/-- so many pairs have been put into the map -/
theorem aside {w w' : World} {m : Nat} {a : Option Addr} {ms : List Sc} {n : Nat} {D : DataW Unit} (h : ScoresAt w a ms) (hm : w.ownsMap Tryz.prog 9 pairElem m n D) (hg : w.grownBy w' (some m)) : ScoresAt w' a ms := by
  refine h.moved fun g o v hv => ?_
  have hlt : g < w.heap.size := World.block_lt_of_cell? _ _ hv
  have hne : some g ≠ some m := by
    intro e
    injection e with e
    subst e
    obtain ⟨es, clock, hb, _⟩ := hm
    simp [World.cell?, hb] at hv
  have hb := hg.block g hlt hne
  rw [← hv]
  unfold World.cell?
  rw [hb]
structure TogAt (w : World) (ms : List Sc) (av : Option Addr) (m : Nat) (k : Nat) (D : DataW Unit) (wr : World) : Prop where
  p : ScoresAt wr av ms
  d : Lasts D (ms.take k)
  o : wr.ownsMap Tryz.prog 9 pairElem m k D
  b : Below w.heap.size w wr
set_option maxRecDepth 100000 in
set_option maxHeartbeats 4000000 in
theorem together_any (a1 a2 : Option Addr) (c1 c2 : Nat) (there l : List Sc) (w : World) (h1 : ScoresAt w a1 there) (h2 : ScoresAt w a2 l) (hn : there.length + l.length ≤ 1500000) (hr : RisesS there) (hU : OnceS there) (hz : ∀ p ∈ there ++ l, p.2.size ≤ maxLen) :
    Calls Tryz.prog 113 #[.slice a1 there.length c1, .slice a2 l.length c2] w fun e w' => ∃ a cap, e = .returned (.slice a (togS there l).length cap) ∧ PairsFrom w.heap.size w' a (togS there l) ∧ Below w.heap.size w w' := by
  have hmm := @run_makeMap Tryz.prog
  have H1 := hide h1
  have H2 := hide h2
  have HZ := hide hz
  have HR := hide hr
  have HU := hide hU
  clear h1 h2 hz hr hU
  go_enter Tryz.func113, Tryz.ntmps113
  go_wp2_with fail
  have hW1 : Below w.heap.size w ((w.alloc (.map #[] 0)).alloc (.cells #[.slice a1 there.length c1, .slice a2 l.length c2] 26)) := ((Below.refl _ w).alloc (Nat.le_refl _) _).alloc (by simp) _
  have hM1 : ((w.alloc (.map #[] 0)).alloc (.cells #[.slice a1 there.length c1, .slice a2 l.length c2] 26)).ownsMap Tryz.prog 9 pairElem w.heap.size 0 (.map []) := (World.ownsMap_made _ _ _ _).alloc _
  refine (concatP_all (w.heap.size + 1) a1 a2 c1 c2 there l _ (by simp [go_sem]) (by simp [go_sem]) (H1.out.below hW1) (H2.out.below hW1) (by omega)).mono ?_
  rintro e w2 ⟨v, rfl, hown2, hb2⟩
  have hW2 : Below w.heap.size w w2 := hW1.trans (hb2.mono hW1.size)
  have hM2 : w2.ownsMap Tryz.prog 9 pairElem w.heap.size 0 (.map []) := hM1.kept (row := none) ⟨hb2.os, hb2.tape, hb2.output, hb2.size, fun j hj _ => hb2.block j hj⟩ (by simp)
  obtain ⟨av, cv, rfl, hV⟩ := pairs_of_own hown2
  have HV := hide hV
  clear hV hown2 hM1 hb2 hW1
  have hlen : (there ++ l).length ≤ 1500000 := by simp; omega
  generalize hMS : there ++ l = MS at *
  have HMS := hide hMS
  clear hMS hn
  go_wp2_with fail
  go_loopw [14] (fun i wr => ∃ (k : Nat) (D : DataW Unit), k ≤ MS.length ∧ i = .int .i64 k ∧ TogAt w MS av w.heap.size k D wr) (fun i _ => MS.length - (intOf i).toNat)
  case atStart => exact ⟨0, .map [], by omega, rfl, ⟨HV.out, by rw [List.take_zero]; exact Lasts.start, hM2, hW2⟩⟩
  case round =>
    clear hM2 HV hW2
    obtain ⟨k, D, hk, rfl, hTA⟩ := hrel
    have HP := hide hTA.p
    have HD := hide hTA.d
    have hown := hTA.o
    have hnx := hTA.b
    clear hTA
    by_cases hlt : k < MS.length
    · have hlt' : ((k : Nat) : Int) < ((MS.length : Nat) : Int) := by omega
      obtain ⟨g, o, rfl, hcs⟩ : ∃ g o, av = some ⟨g, o, none⟩ ∧ ∀ i (h : i < MS.length), wr.cell? ⟨g, o + i * 2, none⟩ = some (.int .i64 MS[i].1) ∧ wr.cell? ⟨g, o + i * 2 + 1, none⟩ = some (.string MS[i].2) := by
        rcases HP.out with h | h
        · subst h; simp at hlt
        · exact h
      obtain ⟨d0, d1⟩ := hcs k hlt
      have HTK : Hid (MS.take (k + 1) = MS.take k ++ [MS[k]]) := List.take_succ_eq_append_getElem hlt
      have hkz : MS[k].2.size ≤ maxLen := HZ.out _ (List.getElem_mem _)
      obtain ⟨X, hX⟩ : ∃ X, X = MS[k] := ⟨_, rfl⟩
      rw [← hX] at d0 d1 HTK hkz
      clear hX hcs
      obtain ⟨X1, X2⟩ := X
      have hkey := keyP hkz
      have hownA := hown.alloc (.cells #[.int .i64 X1, .string X2] 89)
      have hnxA : Below w.heap.size w (wr.alloc (.cells #[.int .i64 X1, .string X2] 89)) := hnx.alloc hnx.size _
      have HPA := hide (HP.out.below ((Below.refl _ wr).alloc (Nat.le_refl _) (.cells #[.int .i64 X1, .string X2] 89)))
      go_wp2_with (at_mapUpdate; refine wpList_mapUpdate_own _ rfl _ _ _ 183 rfl 9 89 keyedS Tryz.underlying183 _ w.heap.size k D rfl hownA (by unfold maxLen; omega) _ _ _ rfl rfl hkey _ [] (pairElem_enc (X1, X2)) ?_)
      intro w5 hown5 hg5
      have B5 := hnxA.grown hg5 hnxA.size (fun j hj => by cases hj; exact Nat.le_refl _)
      have HT5 : Hid (TogAt w MS (some ⟨g, o, none⟩) w.heap.size (k + 1) (D.put (.string X2.data.toList) (datP (X1, X2))) w5) := ⟨aside HPA.out hownA hg5, by rw [HTK.out]; exact HD.out.step hown.isMap (X1, X2), hown5, B5⟩
      clear hown hownA hnxA HPA d0 d1 hkey hg5 hown5 B5 HP HD
      go_wp2_with fail
      go_roundw
      case rel => exact ⟨k + 1, _, by omega, by go_num, HT5.out⟩
      case measure => simp [intOf]; omega
    · have hge : ¬ ((k : Nat) : Int) < ((MS.length : Nat) : Int) := by omega
      obtain rfl : k = MS.length := by omega
      have HD2 : Hid (Lasts D MS) := by have := HD.out; rw [List.take_length] at this; exact this
      clear HD HP
      go_wp2_with fail
      refine ((callsIn_wide (n := 1)).1 (valuesP_in Fence.wide 1 trivial rfl (some w.heap.size) wr)).mono ?_
      rintro e w6 ⟨rfl, rfl⟩
      have hB6 : Below w.heap.size w (wr.alloc (.cells #[.map (some w.heap.size)] 183)) := hnx.alloc hnx.size _
      have hsD : Maps.size D ≤ 2000000 := Nat.le_trans hown.size_le (by omega)
      have HS := hide (valuesP_stops Fence.wide 3 trivial rfl (by omega) wr.heap.size w.heap.size MS.length D (wr.alloc (.cells #[.map (some w.heap.size)] 183)) (by simp) (by simp [go_sem]) (hown.alloc _))
      have eg : ∀ args w, (callFunc 223 args).run Tryz.prog w = .ok (.enter 223 args) w := enters_of Tryz.func223 (by kernel_rfl) rfl
      have HQ := hide (sortedP_any 223 eg _ _ _ _ hsD _ HS.out (fun xs ⟨ps, hA, e⟩ => by rw [e, List.length_map]; exact Nat.le_trans hA.2.1 hsD))
      clear hown HS eg
      go_wp2_with fail
      refine HQ.out.mono ?_
      rintro e w7 ⟨xs, ys, a, cap, hS, hp, hs, rfl, hy, hb7⟩
      obtain rfl : ys = togS there l := tog_values (by rw [HMS.out]; exact HD2.out) HR.out HU.out hS hp hs
      have HY := hide hy
      clear hS hp hs hy HQ
      go_wp2_with fail
      go_ret
      exact ⟨a, cap, rfl, HY.out.mono hB6.size, hB6.trans (hb7.mono hB6.size)⟩
end Go.Proofs.YtcidoodaiimhfaaGreat.Z

