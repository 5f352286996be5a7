/- Part 3 of what the proof leans on: HCat, ShelfH, HSrt, HTog, Boxes, IEncP, IEnc2, HGet, HPut, HDrp, HDel, HDrop, HBeg, GScan, ShelfC, ITake, IDec1, IDec2, IDec3, IDec4, IDec5, IDec6, IDec7, IBackP. -/
import Derived.Test.YtcidoodaiimhfaaGreatPart2
import Derived.Test.YtcidoodaiimhfaaGreatPart1
import Derived.Lib.AppendZeros
import Derived.Laws.OwnMore
import Derived.Handy
import Derived.Shelf.SlGeneric
import Derived.Shelf.SlSortCmp.WholeK
import Derived.Shelf.SlicesQ.IndexFunc
import Derived.Test.YtcidoodaiimhfaaGreatProg
import Derived.Shelf.SlSortCmp.NoneTotal
import Derived.Sort.OwnSorted
import Derived.Lib.Builder
import Derived.Lib.AppendStr
import Derived.Lib.UnsafeStr
import Derived.BigRegion
import Derived.Deep.RegionHeld3
import Derived.Laws.IdiomCopy
import Derived.BigQuiet
import Derived.WalkLawsBesides
import Derived.Shelf.LaysM
import Derived.Shelf.Strconv.Clone
import Derived.Deep.RegionWith
import Derived.Laws.BitsLemmas
/- Appending pairs; Grow, Concat of two. -/
namespace Go.Proofs.YtcidoodaiimhfaaGreat
open Go.RowKit

theorem run_append_noneP (P : Program) (w : World) (base : Nat) (t ty e : TypeId) (i : TypeInfo) (size : Nat) (ht : P.underlying t = some (.slice e)) (hi : P.info? e = some i)
    (v : Value) (n : Nat) (xs : List Value) (hown : w.ownsRow base e size v n xs) (c : Nat) :
    (Builtin.append_ #[t, t] ty #[v, .slice none 0 c]).run P w = .ok v w := by
  rcases hown.2 with ⟨rfl, rfl⟩ | ⟨g, cap, cur, rfl, _, _, hnc, _⟩
  · simp [Builtin.append_, run_underlying ht, sizeOf, typeInfo, hi, Builtin.lenOf, Builtin.firstCells]
  · simp [Builtin.append_, run_underlying ht, sizeOf, typeInfo, hi, Builtin.lenOf, Builtin.firstCells, hnc, storeCells]
theorem rowP_one (l : List (ByteArray × ByteArray)) : ∀ u ∈ rowP l, u.oneCell' = true := by
  induction l with
  | nil => intro u hu; cases hu
  | cons p r ih =>
    intro u hu
    have e : rowP (p :: r) = .string p.1 :: .string p.2 :: rowP r := rfl
    rw [e] at hu
    rcases List.mem_cons.1 hu with rfl | hu
    · rfl
    · rcases List.mem_cons.1 hu with rfl | hu
      · rfl
      · exact ih u hu
theorem rowP_at (l : List (ByteArray × ByteArray)) (i : Nat) (h : i < l.length) : (rowP l)[i * 2]? = some (.string l[i].1) ∧ (rowP l)[i * 2 + 1]? = some (.string l[i].2) := by
  induction l generalizing i with
  | nil => simp at h
  | cons p r ih =>
    have e : rowP (p :: r) = .string p.1 :: .string p.2 :: rowP r := rfl
    rw [e]
    cases i with
    | zero => exact ⟨rfl, rfl⟩
    | succ i =>
      have := ih i (by simpa using h)
      rw [show (i + 1) * 2 = i * 2 + 1 + 1 by omega]
      simpa using this
theorem pairs_news {w : World} {g o : Nat} {l : List (ByteArray × ByteArray)} (h : ∀ i (hi : i < l.length), w.cell? ⟨g, o + i * 2, none⟩ = some (.string l[i].1) ∧ w.cell? ⟨g, o + i * 2 + 1, none⟩ = some (.string l[i].2)) : ∀ j u, (rowP l)[j]? = some u → w.cell? ((⟨g, o, none⟩ : Addr).add j) = some u := by
  intro j u hj
  have hjl : j < l.length * 2 := by
    have := (List.getElem?_eq_some_iff.1 hj).1
    rwa [rowP_len] at this
  have e : (⟨g, o, none⟩ : Addr).add j = ⟨g, o + j, none⟩ := by
    unfold Addr.add
    split
    · rename_i h; subst h; rfl
    · rfl
  have hq : j / 2 < l.length := by omega
  obtain ⟨r1, r2⟩ := rowP_at l (j / 2) hq
  obtain ⟨d1, d2⟩ := h (j / 2) hq
  rw [e]
  by_cases hm : j % 2 = 0
  · have e1 : j = j / 2 * 2 := by omega
    rw [← e1] at r1
    rw [show o + j = o + j / 2 * 2 by omega, d1, ← r1, hj]
  · have e1 : j = j / 2 * 2 + 1 := by omega
    rw [← e1] at r2
    rw [show o + j = o + j / 2 * 2 + 1 by omega, d2, ← r2, hj]
/-- append of texts to a row of one's own -/
theorem wpList_append_pairs {w : World} {ops : Array Oper} {rest : List Oper} {o : Oper} {a : Act} {Q : Exit → Act → World → Prop}
    (hg : o.guard = none) (s x : Operand) (hop : o.op = .call { callee := .builtin .append, args := #[s, x], argTypes := #[25, 25] })
    (base : Nat) (v : Value) (n : Nat) (xs : List Value) (hs : a.eval s = v) (hown : w.ownsRow base 87 2 v n xs)
    (ad : Option Addr) (c : Nat) (l : List (ByteArray × ByteArray)) (hx : a.eval x = .slice ad l.length c) (hl : PairsAt w ad l) (h63 : n + l.length ≤ 2000000) (hbase : base ≤ w.heap.size)
    (hK : ∀ v' w', w'.ownsRow base 87 2 v' (n + l.length) (xs ++ rowP l) → w.grownBy w' v.ownBlock → wpList Tryz.prog ops Q rest (a.put o.dst v') w') :
    wpList Tryz.prog ops Q (o :: rest) a w := by
  obtain ⟨i0, hi, hz0, hz1, hz2⟩ := info_parts infoPair
  refine wpList_plain hg fun K' hK' => ?_
  cases ad with
  | none =>
    obtain rfl : l = [] := by
      rcases hl with h | ⟨g, o, h, _⟩
      · exact h
      · cases h
    have hr := run_append_noneP Tryz.prog w base 25 o.type 87 i0 2 Tryz.underlying25 hi v n xs hown c
    unfold Oper.wp execOp
    simp only [hop, resolve, invoke, builtin, Sem.run_bind, Sem.run_pure, Result.andThen_ok, List.map_toArray, List.map_cons, List.map_nil, hs, hx, List.length_nil, hr]
    exact hK' _ _ (hK v w (by simpa [rowP] using hown) (World.grownBy.refl _ _))
  | some ad =>
    refine wp_append_own (P := Tryz.prog) w s x 25 hop base 87 i0 (.agg #[.string ⟨#[]⟩, .string ⟨#[]⟩]) 2 32 Tryz.underlying25 hi hz0 hz1 hz2 rfl (by decide) v n xs hs hown ad l.length c (rowP l) hx (by rw [rowP_len]) ?_ (rowP_one l) (by unfold maxLen; omega) (by omega) hbase ?_
    · rcases hl with h | ⟨g, o, h, hc⟩
      · subst h
        intro j u hj
        simp [rowP] at hj
      · injection h with h
        subst h
        exact pairs_news hc
    · intro v' w' h1 h2 _
      exact hK' _ _ (hK v' w' h1 h2)

/-- append of so many noughts to nothing -/
theorem wpList_append_zerosP {w : World} {ops : Array Oper} {rest : List Oper} {o : Oper} {a : Act} {Q : Exit → Act → World → Prop}
    (hg : o.guard = none) (s x : Operand) (hop : o.op = .call { callee := .builtin .append, args := #[s, x], argTypes := #[25, 3] })
    (n : Nat) (hs : a.eval s = .slice none 0 0) (hx : a.eval x = .int .i64 n) (h0 : 0 < n) (hn : n ≤ 2000000)
    (hK : ∀ w' cap, n ≤ cap → w'.ownsRow w.heap.size 87 2 (.slice (some ⟨w.heap.size, 0, none⟩) 0 cap) 0 [] → Below w.heap.size w w' → wpList Tryz.prog ops Q rest (a.put o.dst (.slice (some ⟨w.heap.size, 0, none⟩) n cap)) w') :
    wpList Tryz.prog ops Q (o :: rest) a w := by
  obtain ⟨i0, hi, hz0, hz1, hz2⟩ := info_parts infoPair
  refine wpList_plain hg fun K' hK' => ?_
  have hr := Lib.run_append_nil_zeros (P := Tryz.prog) w 25 3 o.type 87 i0 (.agg #[.string ⟨#[]⟩, .string ⟨#[]⟩]) .i64 .i64 Tryz.underlying25 Tryz.underlying3 hi hz0 n h0 (by omega) (by omega) (by rw [hz2]; omega)
  unfold Oper.wp execOp
  simp only [hop, resolve, invoke, builtin, Sem.run_bind, Sem.run_pure, Result.andThen_ok, List.map_toArray, List.map_cons, List.map_nil, hs, hx, hr]
  have hge := grownCap_ge w n 0 87
  have hle := grownCap_le_maxLen w n 0 87 (by unfold maxLen; omega)
  generalize grownCap w n 0 87 = cap at *
  refine hK' _ _ (hK _ cap hge ?_ ((Below.refl _ _).drew.alloc (Nat.le_refl _) _))
  have := World.ownsRow_made (base := w.heap.size) (e := 87) (size := 2) w.drew (Builtin.zeroCells (Value.agg #[.string ⟨#[]⟩, .string ⟨#[]⟩]).cells n ++ Builtin.zeroCells (Value.agg #[.string ⟨#[]⟩, .string ⟨#[]⟩]).cells (cap - n)) cap (Nat.le_refl _) hle (by
    rw [Array.size_append, size_zeroCells, size_zeroCells]
    have : (Value.agg #[.string ⟨#[]⟩, .string ⟨#[]⟩]).cells.size = 2 := rfl
    rw [this]
    omega)
  exact this

set_option maxRecDepth 100000 in
set_option maxHeartbeats 1000000 in
theorem growP_any (n : Nat) (w : World) (h0 : 0 < n) (hn : n ≤ 2000000) : Calls Tryz.prog 216 #[.slice none 0 0, .int .i64 n] w fun e w' => ∃ cap, e = .returned (.slice (some ⟨w.heap.size, 0, none⟩) 0 cap) ∧ w'.ownsRow w.heap.size 87 2 (.slice (some ⟨w.heap.size, 0, none⟩) 0 cap) 0 [] ∧ Below w.heap.size w w' := by
  have h1 : ¬ ((n : Nat) : Int) < 0 := by omega
  have h2 : (0 : Int) < ((n : Nat) : Int) := by omega
  go_enter Tryz.func216, Tryz.ntmps216
  go_wp2_with (at_builtin; refine wpList_append_zerosP rfl _ _ rfl n rfl rfl h0 hn ?_)
  intro w' cap hcap hown hb
  have hc0 : (0 : Int) ≤ ((cap : Nat) : Int) := by omega
  go_wp2_with fail
  go_ret
  exact ⟨cap, rfl, hown, hb⟩

set_option maxRecDepth 100000 in
set_option maxHeartbeats 2000000 in
theorem concatP_any (g : Nat) (a1 a2 : Option Addr) (c1 c2 : Nat) (l1 l2 : List (ByteArray × ByteArray)) (w : World) (h0 : w.cell? ⟨g, 0, none⟩ = some (.slice a1 l1.length c1)) (h1 : w.cell? ⟨g, 1, none⟩ = some (.slice a2 l2.length c2))
    (hl1 : PairsAt w a1 l1) (hl2 : PairsAt w a2 l2) (hpos : 0 < l1.length + l2.length) (hn : l1.length + l2.length ≤ 2000000) :
    Calls Tryz.prog 160 #[.slice (some ⟨g, 0, none⟩) 2 2] w fun e w' => ∃ v, e = .returned v ∧ w'.ownsRow w.heap.size 87 2 v (l1 ++ l2).length (rowP (l1 ++ l2)) ∧ Below w.heap.size w w' := by
  have hgl : g < w.heap.size := World.block_lt_of_cell? _ _ h0
  have H1 := hide hl1
  have H2 := hide hl2
  clear hl1 hl2
  have HG : Hid (Calls Tryz.prog 216 #[.slice none 0 0, .int .i64 (((l1.length : Nat) : Int) + ((l2.length : Nat) : Int))] w fun e w' => ∃ cap, e = .returned (.slice (some ⟨w.heap.size, 0, none⟩) 0 cap) ∧ w'.ownsRow w.heap.size 87 2 (.slice (some ⟨w.heap.size, 0, none⟩) 0 cap) 0 [] ∧ Below w.heap.size w w') := by
    have hh := growP_any (l1.length + l2.length) w hpos hn
    rw [Int.natCast_add] at hh
    exact hh
  have n1 : ¬ ((l1.length : Nat) : Int) < 0 := by omega
  have n2 : ¬ ((l1.length : Nat) : Int) + ((l2.length : Nat) : Int) < 0 := by omega
  go_enter Tryz.func160, Tryz.ntmps160
  go_wp2_with fail
  refine wp_loop_rounds 3 ?_
  rw [rounds_succ]
  go_wp2_with fail
  rw [rounds_succ]
  go_wp2_with fail
  rw [rounds_succ]
  go_wp2_with fail
  refine HG.out.mono ?_
  rintro e w1 ⟨cap, rfl, hown1, hb1⟩
  have e0 : w1.cell? ⟨g, 0, none⟩ = some (.slice a1 l1.length c1) := (hb1.cell (p := ⟨g, 0, none⟩) hgl).trans h0
  have e1 : w1.cell? ⟨g, 1, none⟩ = some (.slice a2 l2.length c2) := (hb1.cell (p := ⟨g, 1, none⟩) hgl).trans h1
  have hz1 := hb1.size
  go_wp2_with fail
  refine wp_loop_rounds 3 ?_
  rw [rounds_succ]
  go_wp2_with (at_builtin; refine wpList_append_pairs rfl _ _ rfl w.heap.size _ 0 [] rfl hown1 a1 c1 l1 rfl (H1.out.below hb1) (by omega) hz1 ?_)
  intro v2 w2 hown2 hg2
  have hb2 : Below w.heap.size w w2 := hb1.grown hg2 hz1 (fun j hj => (hown1.lt j hj).1)
  have hz2 := hb2.size
  have k0 : w2.cell? ⟨g, 0, none⟩ = some (.slice a1 l1.length c1) := (hb2.cell (p := ⟨g, 0, none⟩) hgl).trans h0
  have k1 : w2.cell? ⟨g, 1, none⟩ = some (.slice a2 l2.length c2) := (hb2.cell (p := ⟨g, 1, none⟩) hgl).trans h1
  go_wp2_with fail
  rw [rounds_succ]
  go_wp2_with (at_builtin; refine wpList_append_pairs rfl _ _ rfl w.heap.size _ _ _ rfl hown2 a2 c2 l2 rfl (H2.out.below hb2) (by omega) hz2 ?_)
  intro v3 w3 hown3 hg3
  have hb3 : Below w.heap.size w w3 := hb2.grown hg3 hz2 (fun j hj => (hown2.lt j hj).1)
  go_wp2_with fail
  rw [rounds_succ]
  go_wp2_with fail
  go_ret
  refine ⟨v3, rfl, ?_, hb3⟩
  simpa [rowP] using hown3
set_option maxRecDepth 100000 in
set_option maxHeartbeats 1000000 in
theorem growP_zero (w : World) : Calls Tryz.prog 216 #[.slice none 0 0, .int .i64 0] w fun e w' => e = .returned (.slice none 0 0) ∧ Below w.heap.size w w' := by
  go_enter Tryz.func216, Tryz.ntmps216
  go_wp2_with fail
  go_ret
  exact ⟨rfl, Below.refl _ _⟩
set_option maxRecDepth 100000 in
set_option maxHeartbeats 2000000 in
/-- nothing, and nothing behind it -/
theorem concatP_none (g : Nat) (a1 a2 : Option Addr) (c1 c2 : Nat) (w : World) (h0 : w.cell? ⟨g, 0, none⟩ = some (.slice a1 0 c1)) (h1 : w.cell? ⟨g, 1, none⟩ = some (.slice a2 0 c2)) :
    Calls Tryz.prog 160 #[.slice (some ⟨g, 0, none⟩) 2 2] w fun e w' => ∃ v, e = .returned v ∧ w'.ownsRow w.heap.size 87 2 v 0 [] ∧ Below w.heap.size w w' := by
  have hgl : g < w.heap.size := World.block_lt_of_cell? _ _ h0
  obtain ⟨i0, hi, hz0, hz1, hz2⟩ := info_parts infoPair
  have HG := hide (growP_zero w)
  go_enter Tryz.func160, Tryz.ntmps160
  go_wp2_with fail
  refine wp_loop_rounds 3 ?_
  rw [rounds_succ]
  go_wp2_with fail
  rw [rounds_succ]
  go_wp2_with fail
  rw [rounds_succ]
  go_wp2_with fail
  refine HG.out.mono ?_
  rintro e w1 ⟨rfl, hb1⟩
  have e0 : w1.cell? ⟨g, 0, none⟩ = some (.slice a1 0 c1) := (hb1.cell (p := ⟨g, 0, none⟩) hgl).trans h0
  have e1 : w1.cell? ⟨g, 1, none⟩ = some (.slice a2 0 c2) := (hb1.cell (p := ⟨g, 1, none⟩) hgl).trans h1
  go_wp2_with fail
  refine wp_loop_rounds 3 ?_
  rw [rounds_succ]
  go_wp2_with (at_builtin; refine wpList_append_pairs rfl _ _ rfl w.heap.size _ 0 [] rfl (World.ownsRow_nil _ _ _ _) a1 c1 [] rfl (.inl rfl) (by simp) hb1.size ?_)
  intro v2 w2 hown2 hg2
  have hb2 : Below w.heap.size w w2 := hb1.grown hg2 hb1.size (fun j hj => by simp [Value.ownBlock] at hj)
  have k0 : w2.cell? ⟨g, 0, none⟩ = some (.slice a1 0 c1) := (hb2.cell (p := ⟨g, 0, none⟩) hgl).trans h0
  have k1 : w2.cell? ⟨g, 1, none⟩ = some (.slice a2 0 c2) := (hb2.cell (p := ⟨g, 1, none⟩) hgl).trans h1
  have hz2 := hb2.size
  have hown2' : w2.ownsRow w.heap.size 87 2 v2 0 [] := hown2
  go_wp2_with fail
  rw [rounds_succ]
  go_wp2_with (at_builtin; refine wpList_append_pairs rfl _ _ rfl w.heap.size _ _ _ rfl hown2' a2 c2 [] rfl (.inl rfl) (by simp) hz2 ?_)
  intro v3 w3 hown3 hg3
  have hb3 : Below w.heap.size w w3 := hb2.grown hg3 hz2 (fun j hj => (hown2'.lt j hj).1)
  go_wp2_with fail
  rw [rounds_succ]
  go_wp2_with fail
  go_ret
  exact ⟨v3, rfl, hown3, hb3⟩
theorem concatP_all (g : Nat) (a1 a2 : Option Addr) (c1 c2 : Nat) (l1 l2 : List (ByteArray × ByteArray)) (w : World) (h0 : w.cell? ⟨g, 0, none⟩ = some (.slice a1 l1.length c1)) (h1 : w.cell? ⟨g, 1, none⟩ = some (.slice a2 l2.length c2))
    (hl1 : PairsAt w a1 l1) (hl2 : PairsAt w a2 l2) (hn : l1.length + l2.length ≤ 2000000) :
    Calls Tryz.prog 160 #[.slice (some ⟨g, 0, none⟩) 2 2] w fun e w' => ∃ v, e = .returned v ∧ w'.ownsRow w.heap.size 87 2 v (l1 ++ l2).length (rowP (l1 ++ l2)) ∧ Below w.heap.size w w' := by
  by_cases hp : 0 < l1.length + l2.length
  · exact concatP_any g a1 a2 c1 c2 l1 l2 w h0 h1 hl1 hl2 hp hn
  · obtain rfl : l1 = [] := List.eq_nil_of_length_eq_zero (by omega)
    obtain rfl : l2 = [] := List.eq_nil_of_length_eq_zero (by omega)
    exact concatP_none g a1 a2 c1 c2 w h0 h1
end Go.Proofs.YtcidoodaiimhfaaGreat

/- Library contracts, laid at this program. -/
namespace Go.Proofs
open Go.Shelf
def Tryz.laySortPair_ren : Go.Shelf.Ren := ⟨fun | 6 => 218 | 15 => 158 | 14 => 240 | 28 => 214 | 29 => 215 | 20 => 251 | 21 => 252 | 22 => 253 | 23 => 254 | 24 => 255 | 25 => 256 | 26 => 257 | 27 => 258 | 46 => 272 | 47 => 234 | 48 => 235 | 49 => 273 | 50 => 274 | 57 => 278 | n => n, fun | 22 => 25 | 24 => 87 | 25 => 182 | 3 => 3 | 39 => 173 | 0 => 0 | 53 => 231 | 55 => 233 | 4 => 4 | 46 => 225 | 45 => 224 | 50 => 93 | 5 => 5 | 9 => 9 | 66 => 249 | 70 => 253 | 76 => 266 | 77 => 109 | n => n, fun | n => n⟩
theorem Tryz.laySortPair : Go.Proofs.SlLaysF0.n6 Tryz.prog Tryz.laySortPair_ren := {
  mixed := by kernel_rfl
  f6 := ⟨Tryz.f218.name, by decide, Tryz.func218.trans (congrArg some (by kernel_rfl))⟩
  f14 := ⟨Tryz.f240.name, by decide, Tryz.func240.trans (congrArg some (by kernel_rfl))⟩
  f15 := Tryz.func158.trans (congrArg some (by kernel_rfl))
  f20 := ⟨Tryz.f251.name, by decide, Tryz.func251.trans (congrArg some (by kernel_rfl))⟩
  f21 := ⟨Tryz.f252.name, by decide, Tryz.func252.trans (congrArg some (by kernel_rfl))⟩
  f22 := ⟨Tryz.f253.name, by decide, Tryz.func253.trans (congrArg some (by kernel_rfl))⟩
  f23 := ⟨Tryz.f254.name, by decide, Tryz.func254.trans (congrArg some (by kernel_rfl))⟩
  f24 := ⟨Tryz.f255.name, by decide, Tryz.func255.trans (congrArg some (by kernel_rfl))⟩
  f25 := ⟨Tryz.f256.name, by decide, Tryz.func256.trans (congrArg some (by kernel_rfl))⟩
  f26 := ⟨Tryz.f257.name, by decide, Tryz.func257.trans (congrArg some (by kernel_rfl))⟩
  f27 := ⟨Tryz.f258.name, by decide, Tryz.func258.trans (congrArg some (by kernel_rfl))⟩
  f28 := Tryz.func214.trans (congrArg some (by kernel_rfl))
  f29 := Tryz.func215.trans (congrArg some (by kernel_rfl))
  f46 := ⟨Tryz.f272.name, by decide, Tryz.func272.trans (congrArg some (by kernel_rfl))⟩
  f47 := Tryz.func234.trans (congrArg some (by kernel_rfl))
  f48 := Tryz.func235.trans (congrArg some (by kernel_rfl))
  f49 := ⟨Tryz.f273.name, by decide, Tryz.func273.trans (congrArg some (by kernel_rfl))⟩
  f50 := ⟨Tryz.f274.name, by decide, Tryz.func274.trans (congrArg some (by kernel_rfl))⟩
  f57 := ⟨Tryz.f278.name, by decide, Tryz.func278.trans (congrArg some (by kernel_rfl))⟩
  t0 := Tryz.underlying0
  a0 := Tryz.isAgg0
  z0 := Tryz.sizeOf0
  v0 := Tryz.zeroValue0
  t3 := Tryz.underlying3
  a3 := Tryz.isAgg3
  z3 := Tryz.sizeOf3
  v3 := Tryz.zeroValue3
  t4 := Tryz.underlying4
  a4 := Tryz.isAgg4
  z4 := Tryz.sizeOf4
  v4 := Tryz.zeroValue4
  t5 := Tryz.underlying5
  a5 := Tryz.isAgg5
  z5 := Tryz.sizeOf5
  v5 := Tryz.zeroValue5
  t9 := Tryz.underlying9
  a9 := Tryz.isAgg9
  z9 := Tryz.sizeOf9
  v9 := Tryz.zeroValue9
  t22 := Tryz.underlying25
  a22 := Tryz.isAgg25
  z22 := Tryz.sizeOf25
  v22 := Tryz.zeroValue25
  t25 := Tryz.underlying182
  a25 := Tryz.isAgg182
  z25 := Tryz.sizeOf182
  v25 := Tryz.zeroValue182
  t39 := Tryz.underlying173
  a39 := Tryz.isAgg173
  z39 := Tryz.sizeOf173
  v39 := Tryz.zeroValue173
  t45 := Tryz.underlying224
  a45 := Tryz.isAgg224
  z45 := Tryz.sizeOf224
  v45 := Tryz.zeroValue224
  t46 := Tryz.underlying225
  a46 := Tryz.isAgg225
  z46 := Tryz.sizeOf225
  v46 := Tryz.zeroValue225
  t50 := Tryz.underlying93
  a50 := Tryz.isAgg93
  z50 := Tryz.sizeOf93
  v50 := Tryz.zeroValue93
  t53 := Tryz.underlying231
  a53 := Tryz.isAgg231
  z53 := Tryz.sizeOf231
  v53 := Tryz.zeroValue231
  t55 := Tryz.underlying233
  a55 := Tryz.isAgg233
  z55 := Tryz.sizeOf233
  v55 := Tryz.zeroValue233
  t66 := Tryz.underlying249
  a66 := Tryz.isAgg249
  z66 := Tryz.sizeOf249
  v66 := Tryz.zeroValue249
  t70 := Tryz.underlying253
  a70 := Tryz.isAgg253
  z70 := Tryz.sizeOf253
  v70 := Tryz.zeroValue253
  t76 := Tryz.underlying266
  a76 := Tryz.isAgg266
  z76 := Tryz.sizeOf266
  v76 := Tryz.zeroValue266
  t77 := Tryz.underlying109
  a77 := Tryz.isAgg109
  z77 := Tryz.sizeOf109
  v77 := Tryz.zeroValue109 }
def Tryz.layIdxPair_ren : Go.Shelf.Ren := ⟨fun | 6 => 148 | n => n, fun | 22 => 25 | 23 => 87 | 25 => 120 | 3 => 3 | 0 => 0 | 4 => 4 | n => n, fun | n => n⟩
theorem Tryz.layIdxPair : Go.Proofs.SlLaysH0.n6 Tryz.prog Tryz.layIdxPair_ren := {
  mixed := by kernel_rfl
  f6 := ⟨Tryz.f148.name, by decide, Tryz.func148.trans (congrArg some (by kernel_rfl))⟩
  t0 := Tryz.underlying0
  a0 := Tryz.isAgg0
  z0 := Tryz.sizeOf0
  v0 := Tryz.zeroValue0
  t3 := Tryz.underlying3
  a3 := Tryz.isAgg3
  z3 := Tryz.sizeOf3
  v3 := Tryz.zeroValue3
  t4 := Tryz.underlying4
  a4 := Tryz.isAgg4
  z4 := Tryz.sizeOf4
  v4 := Tryz.zeroValue4
  t22 := Tryz.underlying25
  a22 := Tryz.isAgg25
  z22 := Tryz.sizeOf25
  v22 := Tryz.zeroValue25
  t25 := Tryz.underlying120
  a25 := Tryz.isAgg120
  z25 := Tryz.sizeOf120
  v25 := Tryz.zeroValue120 }
end Go.Proofs

/- Pairs in the order of their fields: slices.SortFunc with together's literal; Collect; SortedFunc. -/
namespace Go.Proofs.YtcidoodaiimhfaaGreat
open Go.RowKit Go.Shelf Go.Lib Go.Sort

def encL (p : ByteArray × ByteArray) : List Value := [.string p.1, .string p.2]
def cfP (p q : ByteArray × ByteArray) : Int := cmpT p.1 q.1
theorem ltP (x y : ByteArray × ByteArray) : ltOf cfP x y = true ↔ lessT x.1 y.1 := by
  unfold ltOf cfP
  rw [decide_eq_true_iff]
  exact cmpT_lt _ _
theorem ltP_not (x y : ByteArray × ByteArray) : ltOf cfP x y = false ↔ ¬ lessT x.1 y.1 := by
  rw [← ltP]; simp
theorem swoP : SWO (ltOf cfP) where
  irrefl x := (ltP_not x x).2 (lessT_irrefl _)
  trans x y z h1 h2 := (ltP x z).2 (lessT_trans ((ltP x y).1 h1) ((ltP y z).1 h2))
  ntrans x y z h1 h2 := by
    rw [ltP_not] at *
    intro h3
    rcases lessT_or x.1 y.1 with h | h | h
    · exact h1 h
    · exact h2 (h ▸ h3)
    · exact h2 (lessT_trans h h3)

set_option maxRecDepth 100000 in
theorem togCmp_any (p q : ByteArray × ByteArray) (W : World) : Calls Tryz.prog 163 #[.agg (encL p).toArray, .agg (encL q).toArray] W fun e w' => e = .returned (.int .i64 (cfP p q)) ∧ ∃ k os, w' = grow (W.drewN k) os := by
  unfold encL cfP
  go_enter Tryz.func163, Tryz.ntmps163
  go_wp2_with fail
  refine (compare_any p.1 q.1 _).mono ?_
  rintro e w' ⟨rfl, rfl⟩
  go_wp2_with fail
  go_ret
  exact ⟨rfl, 0, _, by rw [alloc_eq_grow, alloc_eq_grow, grow_grow]; rfl⟩
theorem isAggP (w : World) : (isAgg 87).run Tryz.prog w = .ok true w := by kernel_rfl
theorem sizeOfP (w : World) : (Go.sizeOf 87).run Tryz.prog w = .ok 2 w := by kernel_rfl
theorem grownBy_sortK {w : World} {g n : Nat} {os : Array Obj} (d : Array (ByteArray × ByteArray)) : w.grownBy (sortWorldK encL 2 w g 0 n d os) (some g) := by
  refine ⟨rfl, rfl, rfl, size_sortWorldK_c _ _ _ _ _ _ _ _, fun k hk hne => ?_⟩
  unfold sortWorldK
  rw [heap_grow_old _ _ (by simpa [putRowK, putRow, mapBlock] using hk)]
  have : g ≠ k := fun e => hne (by rw [e])
  simp [putRowK, putRow, mapBlock, Sort.ahead, Array.getElem?_modify, this]
theorem flat_at (xs : List (ByteArray × ByteArray)) (j : Nat) (hj : j < xs.length * 2) : (rowP xs)[j]? = some (flatK encL 2 xs.toArray)[j]! := by
  have hq : j / 2 < xs.length := by omega
  obtain ⟨r1, r2⟩ := rowP_at xs (j / 2) hq
  have e : (flatK encL 2 xs.toArray)[j]! = (encL xs[j / 2])[j % 2]! := by
    unfold flatK
    rw [getElem!_pos _ j (by simpa using hj)]
    simp [hq]
  rw [e]
  by_cases hm : j % 2 = 0
  · have e1 : j / 2 * 2 = j := by omega
    rw [e1] at r1
    rw [r1, hm]; rfl
  · have e1 : j / 2 * 2 + 1 = j := by omega
    rw [e1] at r2
    rw [r2, show j % 2 = 1 by omega]; rfl
/-- pairs that lie in memory from a block on: they stay as long as that does -/
def PairsFrom (B : Nat) (w : World) (a : Option Addr) (ms : List (ByteArray × ByteArray)) : Prop := ∀ W', (∀ g o u, B ≤ g → w.cell? ⟨g, o, none⟩ = some u → w.frozen? ⟨g, o, none⟩ = false → W'.cell? ⟨g, o, none⟩ = some u) → PairsAt W' a ms
theorem PairsFrom.of {B : Nat} {w : World} {g o : Nat} {ms : List (ByteArray × ByteArray)} (h : PairsAt w (some ⟨g, o, none⟩) ms) (hB : B ≤ g) (hf : ∀ i, i < ms.length → w.frozen? ⟨g, o + i * 2, none⟩ = false ∧ w.frozen? ⟨g, o + i * 2 + 1, none⟩ = false) : PairsFrom B w (some ⟨g, o, none⟩) ms := fun W' hW => by
  rcases h with h | ⟨g', o', e, hc⟩
  · exact .inl h
  · obtain ⟨rfl, rfl⟩ : g = g' ∧ o = o' := by simpa using e
    exact .inr ⟨g, o, rfl, fun i hi => ⟨hW _ _ _ hB (hc i hi).1 (hf i hi).1, hW _ _ _ hB (hc i hi).2 (hf i hi).2⟩⟩
theorem PairsFrom.mono {B B0 : Nat} {w : World} {a : Option Addr} {ms : List (ByteArray × ByteArray)} (h : PairsFrom B w a ms) (hB : B0 ≤ B) : PairsFrom B0 w a ms := fun W' hW => h W' fun g o u hg => hW g o u (by omega)
theorem PairsFrom.none (B : Nat) (w : World) (a : Option Addr) : PairsFrom B w a [] := fun _ _ => .inl rfl
theorem sortP_any (base g cap : Nat) (xs : List (ByteArray × ByteArray)) (w : World) (hown : w.ownsRow base 87 2 (.slice (some ⟨g, 0, none⟩) xs.length cap) xs.length (rowP xs)) (hn : xs.length ≤ 2000000) :
    Calls Tryz.prog 218 #[.slice (some ⟨g, 0, none⟩) xs.length cap, .func (.func 163) #[] #[]] w fun e w' => e = .returned (.tuple #[]) ∧ ∃ ys : List (ByteArray × ByteArray), ys.Perm xs ∧ ys.Pairwise (fun a b => ¬ lessT b.1 a.1) ∧ PairsFrom base w' (some ⟨g, 0, none⟩) ys ∧ Below base w w' := by
  have hlt := hown.lt g rfl
  have hH : HoldsK encL 2 w g 0 xs.toArray := by
    intro j hj
    have hj' : j < xs.length * 2 := by simpa using hj
    refine ⟨?_, ?_⟩
    · rw [Nat.zero_add, hown.cellAt j hj', flat_at xs j hj']; rfl
    · rcases hown.2 with ⟨h, _⟩ | ⟨g', cap', cur, h, _, hg, _⟩
      · cases h
      · obtain rfl : g = g' := (by simpa using h : g = g' ∧ cap = cap').1
        simp [World.frozen?, hg]
  have eg : ∀ args w, (callFunc 163 args).run Tryz.prog w = .ok (.enter 163 args) w := enters_of Tryz.func163 (by kernel_rfl) rfl
  have hcon := AnyQ.slices_SortFunc Tryz.laySortPair 2 isAggP sizeOfP encL (fun _ => rfl) (fun x v hv => by simp [encL] at hv; rcases hv with rfl | rfl <;> rfl) cfP swoP 163 #[] g 0 cap xs.toArray w eg (fun _ _ _ _ x y => togCmp_any x y _) hH hlt.2 (by simp; omega)
  refine hcon.mono ?_
  rintro e w' ⟨rfl, d', n, os, hp, hs, rfl⟩
  have hds : d'.size = xs.length := by rw [hp.1]; simp
  refine ⟨rfl, d'.toList, ?_, ?_, ?_, ?_⟩
  · have := hp.2.2
    have e9 : List.take xs.length d'.toList = d'.toList := List.take_of_length_le (by simp [hds])
    simpa [hds, e9] using this
  · rw [List.pairwise_iff_getElem]
    intro i j hi hj hij
    have h1 := hs i j (Nat.zero_le _) hij (by simpa [hds] using hj)
    rw [ltP_not] at h1
    simpa [show i < d'.size by simpa using hi, show j < d'.size by simpa using hj] using h1
  · have hK := holdsK_sortWorldK_c encL 2 w g 0 xs.toArray d' n os hH hlt.2 (by simp [hds])
    refine PairsFrom.of (.inr ⟨g, 0, rfl, fun i hi => ?_⟩) hlt.1 (fun i hi => ⟨by have hi' : i < d'.size := by simpa using hi
                                                                                  have c0 := (hK.cell hi' (show 0 < 2 by omega)).2
                                                                                  rwa [show 0 + i * 2 + 0 = 0 + i * 2 by omega] at c0, (hK.cell (show i < d'.size by simpa using hi) (show 1 < 2 by omega)).2⟩)
    have hi' : i < d'.size := by simpa using hi
    have c0 := (hK.cell hi' (show 0 < 2 by omega)).1
    have c1 := (hK.cell hi' (show 1 < 2 by omega)).1
    refine ⟨?_, ?_⟩
    · rw [show 0 + i * 2 + 0 = 0 + i * 2 by omega] at c0
      rw [c0]; simp [encL, hi']
    · rw [c1]; simp [encL, hi']
  · exact (Below.refl _ _).grown (grownBy_sortK d') (Nat.le_of_lt (Nat.lt_of_le_of_lt hlt.1 hlt.2)) (fun k hk => by cases hk; exact hlt.1)
theorem sortP_none (a : Option Addr) (cap : Nat) (w : World) : Calls Tryz.prog 218 #[.slice a 0 cap, .func (.func 163) #[] #[]] w fun e w' => e = .returned (.tuple #[]) ∧ w' = w :=
  AnyF.slices_SortFunc_none Tryz.laySortPair a cap _ w

section
variable (gf : Nat) (eg : ∀ args w, (callFunc gf args).run Tryz.prog w = .ok (.enter gf args) w) (lb : Array Value) (S Sp : List (ByteArray × ByteArray) → Prop) (N : Nat) (hN : N ≤ 2000000) (w : World) (hseq : SeqStops Fence.wide 3 Tryz.prog gf lb encPr S Sp N w)
include eg hN hseq
set_option maxRecDepth 100000 in
theorem collectP_any : Calls Tryz.prog 217 #[.func (.func gf) #[] lb] w fun e W' => ∃ xs v, S xs ∧ e = .returned v ∧ W'.ownsRow w.heap.size 87 2 v xs.length (rowP xs) ∧ Below w.heap.size w W' := by
  have HA := hide ((callsIn_wide (n := 4)).1 (appendSeqP_in Fence.wide 4 trivial rfl (by omega) gf trivial eg lb S Sp N hN w hseq))
  go_enter Tryz.func217, Tryz.ntmps217
  go_wp2_with fail
  refine HA.out.mono ?_
  rintro e w1 ⟨xs, v, hS, rfl, hown, hb⟩
  go_wp2_with fail
  go_ret
  exact ⟨xs, v, hS, rfl, hown, hb⟩
set_option maxRecDepth 100000 in
set_option maxHeartbeats 1000000 in
theorem sortedP_any (hS2 : ∀ xs, S xs → xs.length ≤ 2000000) : Calls Tryz.prog 161 #[.func (.func gf) #[] lb, .func (.func 163) #[] #[]] w fun e W' => ∃ (xs ys : List (ByteArray × ByteArray)) (a : Option Addr) (cap : Nat), S xs ∧ ys.Perm xs ∧ ys.Pairwise (fun a b => ¬ lessT b.1 a.1) ∧ e = .returned (.slice a ys.length cap) ∧ PairsFrom w.heap.size W' a ys ∧ Below w.heap.size w W' := by
  have HA := hide (collectP_any gf eg lb S Sp N hN w hseq)
  have HS := hide hS2
  clear hseq eg hS2
  go_enter Tryz.func161, Tryz.ntmps161
  go_wp2_with fail
  refine HA.out.mono ?_
  rintro e w1 ⟨xs, v, hS, rfl, hown, hb⟩
  have hlen := HS.out xs hS
  rcases hown.2 with ⟨rfl, h0⟩ | ⟨g, cap, cur, rfl, hrest⟩
  · obtain rfl : xs = [] := List.eq_nil_of_length_eq_zero h0
    go_wp2_with fail
    refine (sortP_none _ _ _).mono ?_
    rintro e w2 ⟨rfl, rfl⟩
    go_wp2_with fail
    go_ret
    exact ⟨[], [], none, 0, hS, .refl _, .nil, rfl, PairsFrom.none _ _ _, hb⟩
  · clear hrest
    have HO := hide hown
    clear hown
    go_wp2_with fail
    refine (sortP_any _ g cap xs _ HO.out hlen).mono ?_
    rintro e w2 ⟨rfl, ys, hp, hs, hy, hb2⟩
    go_wp2_with fail
    go_ret
    exact ⟨xs, ys, _, cap, hS, hp, hs, by rw [hp.length_eq]; rfl, hy, hb.trans hb2⟩
end
end Go.Proofs.YtcidoodaiimhfaaGreat

/- WALK of hashes: together. -/
namespace Go.Proofs.YtcidoodaiimhfaaGreat
open Go.RowKit Go.Maps

/-- what the map holds: of each field the pair that was met last -/
structure Lasts (D : DataW Unit) (ms : List Pr) : Prop where
  at_ : ∀ f p, lastP ms f = some p → ∀ zd, D.atKey (.string f.data.toList) zd = datP p
  has_ : ∀ x : List UInt8, Maps.has D (.string x) = true ↔ ∃ p ∈ ms, p.1.data.toList = x
theorem Lasts.start : Lasts (.map []) [] := ⟨fun f p h => by simp [lastP] at h, fun x => by simp [Maps.has]⟩
theorem Lasts.step {D : DataW Unit} {ms : List Pr} (h : Lasts D ms) (hm : IsMap D) (p : Pr) : Lasts (D.put (.string p.1.data.toList) (datP p)) (ms ++ [p]) := by
  refine ⟨fun f q hq zd => ?_, fun x => ?_⟩
  · rw [lastP_snoc] at hq
    by_cases e : p.1 = f
    · subst e
      rw [if_pos rfl] at hq
      cases hq
      exact atKey_put_same hm (k := .string _) (by trivial) _ _
    · rw [if_neg e] at hq
      rw [atKey_put_other (by intro e2; injection e2 with e2; exact e (bytes_eq e2.symm)), h.at_ f q hq]
  · by_cases e : x = p.1.data.toList
    · subst e
      rw [has_put_same hm (k := .string _) (by trivial)]
      simp
    · rw [has_put_other (by intro e2; injection e2 with e2; exact e e2), h.has_]
      constructor
      · rintro ⟨q, hq, rfl⟩; exact ⟨q, by simp [hq], rfl⟩
      · rintro ⟨q, hq, rfl⟩
        rcases List.mem_append.1 hq with hq | hq
        · exact ⟨q, hq, rfl⟩
        · simp at hq; subst hq; exact absurd rfl e
/-- what the values come to, in order -/
theorem tog_values {D : DataW Unit} {there l : List Pr} (h : Lasts D (there ++ l)) (hr : RisesP there) {xs ys : List Pr} (hS : ∃ ps, AllP D ps ∧ xs = ps.map (·.2)) (hp : ys.Perm xs) (hs : ys.Pairwise fun a b => ¬ lessT b.1 a.1) : ys = togP there l := by
  obtain ⟨ps, hA, rfl⟩ := hS
  obtain ⟨hn, -, h2, h3⟩ := hA
  have hval : ∀ q ∈ ps, lastP (there ++ l) q.2.1 = some q.2 ∧ q.2.1.data.toList = q.1 := by
    intro q hq
    obtain ⟨r, hr1, hr2⟩ := (h.has_ q.1).1 ((h2 q.1).1 (List.mem_map.2 ⟨q, hq, rfl⟩))
    obtain ⟨s, hs1⟩ := lastP_some hr1
    have e1 := h.at_ r.1 s hs1 (.nil)
    rw [hr2] at e1
    have e2 : datP q.2 = datP s := (h3 q hq .nil).symm.trans e1
    have e3 := datP_inj e2
    have e4 := lastP_field hs1
    rw [e3]
    exact ⟨by rw [e4]; exact hs1, by rw [e4]; exact hr2⟩
  have hmem : ∀ q, q ∈ ys ↔ q ∈ togP there l := by
    intro q
    rw [hp.mem_iff, mem_togP hr]
    constructor
    · intro hq
      obtain ⟨z, hz, rfl⟩ := List.mem_map.1 hq
      exact (hval z hz).1
    · intro hq
      have hk := (h2 q.1.data.toList).2 ((h.has_ _).2 ⟨q, lastP_mem hq, rfl⟩)
      obtain ⟨z, hz, ez⟩ := List.mem_map.1 hk
      obtain ⟨v1, v2⟩ := hval z hz
      have e1 : z.2.1 = q.1 := bytes_eq (v2.trans ez)
      rw [e1, hq] at v1
      exact List.mem_map.2 ⟨z, hz, (Option.some.inj v1).symm⟩
  have hfn : (ys.map (·.1)).Nodup := by
    have hx : ((ps.map (·.2)).map (·.1)).Nodup := by
      rw [List.map_map]
      have e : ps.map (·.1) = (ps.map ((·.1) ∘ (·.2))).map (fun b : ByteArray => b.data.toList) := by
        rw [List.map_map]
        exact List.map_congr_left fun q hq => (hval q hq).2.symm
      rw [e] at hn
      exact List.Pairwise.of_map _ (fun a b hab e => hab (by rw [e])) hn
    exact (hp.map _).nodup_iff.2 hx
  have hris : RisesP ys := by
    have h4 : ys.Pairwise fun a b => a.1 ≠ b.1 := by
      rw [List.Nodup, List.pairwise_map] at hfn
      exact hfn
    refine (hs.and h4).imp ?_
    rintro a b ⟨ha, hb⟩
    rcases lessT_or a.1 b.1 with h | h | h
    · exact h
    · exact absurd h hb
    · exact absurd h ha
  exact risesP_unique hris (rises_togP hr l) hmem
theorem keyP {s : ByteArray} (h : s.size ≤ maxLen) : keyOf Tryz.prog 9 (.string s) = some (.string s.data.toList) := WideMaps.keyOf_string_mk Tryz.underlying9 h
theorem pairs_of_own {w : World} {base : Nat} {v : Value} {ms : List Pr} (h : w.ownsRow base 87 2 v ms.length (rowP ms)) : ∃ a cap, v = .slice a ms.length cap ∧ PairsAt w a ms := by
  rcases h.2 with ⟨rfl, h0⟩ | ⟨g, cap, cur, rfl, _⟩
  · obtain rfl : ms = [] := List.eq_nil_of_length_eq_zero h0
    exact ⟨none, 0, rfl, .inl rfl⟩
  · refine ⟨_, cap, rfl, .inr ⟨g, 0, rfl, fun i hi => ?_⟩⟩
    obtain ⟨r1, r2⟩ := rowP_at ms i hi
    rw [Nat.zero_add]
    exact ⟨by rw [h.cellAt _ (by omega)]; exact r1, by rw [h.cellAt _ (by omega)]; exact r2⟩
/-- so many pairs have been put into the map -/
theorem PairsAt.aside {w w' : World} {m : Nat} {a : Option Addr} {ms : List Pr} {n : Nat} {D : DataW Unit} (h : PairsAt w a ms) (hm : w.ownsMap Tryz.prog 9 pairElem m n D) (hg : w.grownBy w' (some m)) : PairsAt w' a ms := by
  refine h.moved fun g o v hv => ?_
  have hlt : g < w.heap.size := World.block_lt_of_cell? _ _ hv
  have hne : some g ≠ some m := by
    intro e
    injection e with e
    subst e
    obtain ⟨es, clock, hb, _⟩ := hm
    simp [World.cell?, hb] at hv
  have hb := hg.block g hlt hne
  rw [← hv]
  unfold World.cell?
  rw [hb]
structure TogAt (w : World) (ms : List Pr) (av : Option Addr) (m : Nat) (k : Nat) (D : DataW Unit) (wr : World) : Prop where
  p : PairsAt wr av ms
  d : Lasts D (ms.take k)
  o : wr.ownsMap Tryz.prog 9 pairElem m k D
  b : Below w.heap.size w wr
set_option maxRecDepth 100000 in
set_option maxHeartbeats 4000000 in
theorem togetherH_any (a1 a2 : Option Addr) (c1 c2 : Nat) (there l : List Pr) (w : World) (h1 : PairsAt w a1 there) (h2 : PairsAt w a2 l) (hn : there.length + l.length ≤ 1500000) (hr : RisesP there) (hz : ∀ p ∈ there ++ l, p.1.size ≤ maxLen) :
    Calls Tryz.prog 105 #[.slice a1 there.length c1, .slice a2 l.length c2] w fun e w' => ∃ a cap, e = .returned (.slice a (togP there l).length cap) ∧ PairsFrom w.heap.size w' a (togP there l) ∧ Below w.heap.size w w' := by
  have hmm := @run_makeMap Tryz.prog
  have H1 := hide h1
  have H2 := hide h2
  have HZ := hide hz
  have HR := hide hr
  clear h1 h2 hz hr
  go_enter Tryz.func105, Tryz.ntmps105
  go_wp2_with fail
  have hW1 : Below w.heap.size w ((w.alloc (.map #[] 0)).alloc (.cells #[.slice a1 there.length c1, .slice a2 l.length c2] 25)) := ((Below.refl _ w).alloc (Nat.le_refl _) _).alloc (by simp) _
  have hM1 : ((w.alloc (.map #[] 0)).alloc (.cells #[.slice a1 there.length c1, .slice a2 l.length c2] 25)).ownsMap Tryz.prog 9 pairElem w.heap.size 0 (.map []) := (World.ownsMap_made _ _ _ _).alloc _
  refine (concatP_all (w.heap.size + 1) a1 a2 c1 c2 there l _ (by simp [go_sem]) (by simp [go_sem]) (H1.out.below hW1) (H2.out.below hW1) (by omega)).mono ?_
  rintro e w2 ⟨v, rfl, hown2, hb2⟩
  have hW2 : Below w.heap.size w w2 := hW1.trans (hb2.mono hW1.size)
  have hM2 : w2.ownsMap Tryz.prog 9 pairElem w.heap.size 0 (.map []) := hM1.kept (row := none) ⟨hb2.os, hb2.tape, hb2.output, hb2.size, fun j hj _ => hb2.block j hj⟩ (by simp)
  obtain ⟨av, cv, rfl, hV⟩ := pairs_of_own hown2
  have HV := hide hV
  clear hV hown2 hM1 hb2 hW1
  have hlen : (there ++ l).length ≤ 1500000 := by simp; omega
  generalize hMS : there ++ l = MS at *
  have HMS := hide hMS
  clear hMS hn
  go_wp2_with fail
  go_loopw [14] (fun i wr => ∃ (k : Nat) (D : DataW Unit), k ≤ MS.length ∧ i = .int .i64 k ∧ TogAt w MS av w.heap.size k D wr) (fun i _ => MS.length - (intOf i).toNat)
  case atStart => exact ⟨0, .map [], by omega, rfl, ⟨HV.out, by rw [List.take_zero]; exact Lasts.start, hM2, hW2⟩⟩
  case round =>
    clear hM2 HV hW2
    obtain ⟨k, D, hk, rfl, hTA⟩ := hrel
    have HP := hide hTA.p
    have HD := hide hTA.d
    have hown := hTA.o
    have hnx := hTA.b
    clear hTA
    by_cases hlt : k < MS.length
    · have hlt' : ((k : Nat) : Int) < ((MS.length : Nat) : Int) := by omega
      obtain ⟨g, o, rfl, hcs⟩ : ∃ g o, av = some ⟨g, o, none⟩ ∧ ∀ i (h : i < MS.length), wr.cell? ⟨g, o + i * 2, none⟩ = some (.string MS[i].1) ∧ wr.cell? ⟨g, o + i * 2 + 1, none⟩ = some (.string MS[i].2) := by
        rcases HP.out with h | h
        · subst h; simp at hlt
        · exact h
      obtain ⟨d0, d1⟩ := hcs k hlt
      have HTK : Hid (MS.take (k + 1) = MS.take k ++ [MS[k]]) := List.take_succ_eq_append_getElem hlt
      have hkz : MS[k].1.size ≤ maxLen := HZ.out _ (List.getElem_mem _)
      obtain ⟨X, hX⟩ : ∃ X, X = MS[k] := ⟨_, rfl⟩
      rw [← hX] at d0 d1 HTK hkz
      clear hX hcs
      obtain ⟨X1, X2⟩ := X
      have hkey := keyP hkz
      have hownA := hown.alloc (.cells #[.string X1, .string X2] 87)
      have hnxA : Below w.heap.size w (wr.alloc (.cells #[.string X1, .string X2] 87)) := hnx.alloc hnx.size _
      have HPA := hide (HP.out.below ((Below.refl _ wr).alloc (Nat.le_refl _) (.cells #[.string X1, .string X2] 87)))
      go_wp2_with (at_mapUpdate; refine wpList_mapUpdate_own _ rfl _ _ _ 176 rfl 9 87 keyedS Tryz.underlying176 _ w.heap.size k D rfl hownA (by unfold maxLen; omega) _ _ _ rfl rfl hkey _ [] (pairElem_enc (X1, X2)) ?_)
      intro w5 hown5 hg5
      have B5 := hnxA.grown hg5 hnxA.size (fun j hj => by cases hj; exact Nat.le_refl _)
      have HT5 : Hid (TogAt w MS (some ⟨g, o, none⟩) w.heap.size (k + 1) (D.put (.string X1.data.toList) (datP (X1, X2))) w5) := ⟨HPA.out.aside hownA hg5, by rw [HTK.out]; exact HD.out.step hown.isMap (X1, X2), hown5, B5⟩
      clear hown hownA hnxA HPA d0 d1 hkey hg5 hown5 B5 HP HD
      go_wp2_with fail
      go_roundw
      case rel => exact ⟨k + 1, _, by omega, by go_num, HT5.out⟩
      case measure => simp [intOf]; omega
    · have hge : ¬ ((k : Nat) : Int) < ((MS.length : Nat) : Int) := by omega
      obtain rfl : k = MS.length := by omega
      have HD2 : Hid (Lasts D MS) := by have := HD.out; rw [List.take_length] at this; exact this
      clear HD HP
      go_wp2_with fail
      refine ((callsIn_wide (n := 1)).1 (valuesP_in Fence.wide 1 trivial rfl (some w.heap.size) wr)).mono ?_
      rintro e w6 ⟨rfl, rfl⟩
      have hB6 : Below w.heap.size w (wr.alloc (.cells #[.map (some w.heap.size)] 176)) := hnx.alloc hnx.size _
      have hsD : Maps.size D ≤ 2000000 := Nat.le_trans hown.size_le (by omega)
      have HS := hide (valuesP_stops Fence.wide 3 trivial rfl (by omega) wr.heap.size w.heap.size MS.length D (wr.alloc (.cells #[.map (some w.heap.size)] 176)) (by simp) (by simp [go_sem]) (hown.alloc _))
      have eg : ∀ args w, (callFunc 219 args).run Tryz.prog w = .ok (.enter 219 args) w := enters_of Tryz.func219 (by kernel_rfl) rfl
      have HQ := hide (sortedP_any 219 eg _ _ _ _ hsD _ HS.out (fun xs ⟨ps, hA, e⟩ => by rw [e, List.length_map]; exact Nat.le_trans hA.2.1 hsD))
      clear hown HS eg
      go_wp2_with fail
      refine HQ.out.mono ?_
      rintro e w7 ⟨xs, ys, a, cap, hS, hp, hs, rfl, hy, hb7⟩
      obtain rfl : ys = togP there l := tog_values (by rw [HMS.out]; exact HD2.out) HR.out hS hp hs
      have HY := hide hy
      clear hS hp hs hy HQ
      go_wp2_with fail
      go_ret
      exact ⟨a, cap, rfl, HY.out.mono hB6.size, hB6.trans (hb7.mono hB6.size)⟩
end Go.Proofs.YtcidoodaiimhfaaGreat

/- Boxes of five cells, and what becomes of them. -/
namespace Go.Proofs.YtcidoodaiimhfaaGreat
open Go.RowKit

/-- five cells lie in a block -/
structure BoxAt (w : World) (b : Nat) (v0 v1 v2 v3 v4 : Value) : Prop where
  c0 : w.cell? ⟨b, 0, none⟩ = some v0
  c1 : w.cell? ⟨b, 1, none⟩ = some v1
  c2 : w.cell? ⟨b, 2, none⟩ = some v2
  c3 : w.cell? ⟨b, 3, none⟩ = some v3
  c4 : w.cell? ⟨b, 4, none⟩ = some v4
  lt : b < w.heap.size
theorem BoxAt.below {w w' : World} {b : Nat} {v0 v1 v2 v3 v4 : Value} (h : BoxAt w b v0 v1 v2 v3 v4) (hb : Below w.heap.size w w') : BoxAt w' b v0 v1 v2 v3 v4 :=
  ⟨(hb.cell (p := ⟨b, 0, none⟩) h.lt).trans h.c0, (hb.cell (p := ⟨b, 1, none⟩) h.lt).trans h.c1, (hb.cell (p := ⟨b, 2, none⟩) h.lt).trans h.c2, (hb.cell (p := ⟨b, 3, none⟩) h.lt).trans h.c3, (hb.cell (p := ⟨b, 4, none⟩) h.lt).trans h.c4, Nat.lt_of_lt_of_le h.lt hb.size⟩
theorem BoxAt.alloc {w : World} {b : Nat} {v0 v1 v2 v3 v4 : Value} (h : BoxAt w b v0 v1 v2 v3 v4) (o : Obj) : BoxAt (w.alloc o) b v0 v1 v2 v3 v4 :=
  h.below ((Below.refl _ _).alloc (Nat.le_refl _) _)
theorem BoxAt.new (w : World) (v0 v1 v2 v3 v4 : Value) (T : TypeId) : BoxAt (w.alloc (.cells #[v0, v1, v2, v3, v4] T)) w.heap.size v0 v1 v2 v3 v4 :=
  ⟨by simp [go_sem], by simp [go_sem], by simp [go_sem], by simp [go_sem], by simp [go_sem], by simp⟩
theorem BoxAt.drewN {w : World} {b : Nat} {v0 v1 v2 v3 v4 : Value} (h : BoxAt w b v0 v1 v2 v3 v4) (n : Nat) : BoxAt (w.drewN n) b v0 v1 v2 v3 v4 :=
  ⟨h.c0, h.c1, h.c2, h.c3, h.c4, h.lt⟩
end Go.Proofs.YtcidoodaiimhfaaGreat

/- An item's bytes, as plain data. -/
namespace Go.Proofs.YtcidoodaiimhfaaGreat

/-- a text: how many bytes, and they -/
def encT (t : ByteArray) : List UInt8 := UInt8.ofNat t.size :: t.data.toList
/-- a score's number: four bytes -/
def num4 (n : Int) : List UInt8 := [UInt8.ofNat ((n + 999999999).toNat / 16777216), UInt8.ofNat ((n + 999999999).toNat / 65536), UInt8.ofNat ((n + 999999999).toNat / 256), UInt8.ofNat (n + 999999999).toNat]
def encP (p : ByteArray × ByteArray) : List UInt8 := encT p.1 ++ encT p.2
def encS (s : Int × ByteArray) : List UInt8 := num4 s.1 ++ encT s.2
def manyI (x : Itm) : Nat := x.l.length + x.p.length + x.s.length
def bodyI (x : Itm) : List UInt8 := (x.l.map encT).flatten ++ (x.p.map encP).flatten ++ (x.s.map encS).flatten
/-- the bytes of an item that is right -/
def encI (x : Itm) : List UInt8 := if x.k = 1 then 1 :: x.t.data.toList else UInt8.ofNat x.k.toNat :: UInt8.ofNat (manyI x) :: bodyI x
theorem flat_take {α : Type} (f : α → List UInt8) (l : List α) {k : Nat} (h : k < l.length) : ((l.take (k + 1)).map f).flatten = ((l.take k).map f).flatten ++ f l[k] := by
  rw [List.take_succ_eq_append_getElem h, List.map_append, List.flatten_append]
  simp
theorem flat_len {α : Type} (f : α → List UInt8) (m : Nat) : ∀ l : List α, (∀ a ∈ l, (f a).length ≤ m) → (l.map f).flatten.length ≤ l.length * m
  | [], _ => by simp
  | a :: l, h => by
    have h1 := h a (by simp)
    have h2 := flat_len f m l (fun b hb => h b (by simp [hb]))
    simp only [List.map_cons, List.flatten_cons, List.length_append, List.length_cons]
    rw [Nat.add_mul, Nat.one_mul]
    omega
theorem byteCells_app (a b : List UInt8) : Go.Lib.byteCells a ++ Go.Lib.byteCells b = Go.Lib.byteCells (a ++ b) := by simp [Go.Lib.byteCells]
theorem strCells_list (s : ByteArray) : Go.Lib.strCells s = Go.Lib.byteCells s.data.toList := by simp [Go.Lib.strCells, Go.Lib.byteCells]
theorem ofNat_nat (n : Nat) : (UInt8.ofNat n).toNat = n % 256 := by simp
theorem byte_cell (n : Nat) : [Go.Value.int .u8 (((n % 256 : Nat) : Int))] = Go.Lib.byteCells [UInt8.ofNat n] := by simp [Go.Lib.byteCells]
end Go.Proofs.YtcidoodaiimhfaaGreat

/- What an item that is right has. -/
namespace Go.Proofs.YtcidoodaiimhfaaGreat

theorem any_long_not {l : List ByteArray} (h : l.any longT = false) : ∀ t ∈ l, t.size ≤ 60 := fun t ht => by
  have := List.any_eq_false.1 h t ht
  simp only [longT, decide_eq_true_eq] at this
  omega
theorem any_longP_not {l : List (ByteArray × ByteArray)} (h : l.any longP = false) : ∀ t ∈ l, t.1.size ≤ 60 ∧ t.2.size ≤ 60 := fun t ht => by
  have := List.any_eq_false.1 h t ht
  simp only [longP, longT, Bool.or_eq_true, decide_eq_true_eq] at this
  omega
theorem any_longS_not {l : List (Int × ByteArray)} (h : l.any longS = false) : ∀ t ∈ l, t.2.size ≤ 60 := fun t ht => by
  have := List.any_eq_false.1 h t ht
  simp only [longS, longT, decide_eq_true_eq] at this
  omega
theorem any_outS_not {l : List (Int × ByteArray)} (h : ¬ l.any outS = true) : ∀ t ∈ l, -999999999 ≤ t.1 ∧ t.1 ≤ 999999999 := fun t ht => by
  have h' : l.any outS = false := by cases hb : l.any outS; rfl; exact absurd hb h
  have := List.any_eq_false.1 h' t ht
  simp only [outS, Bool.or_eq_true, decide_eq_true_eq] at this
  omega
/-- what an item that is right has -/
structure Right (x : Itm) : Prop where
  k1 : 1 ≤ x.k
  k5 : x.k ≤ 5
  tz : x.t.size ≤ 60
  lz : ∀ t ∈ x.l, t.size ≤ 60
  ln : x.l.length ≤ 24
  pz : ∀ t ∈ x.p, t.1.size ≤ 60 ∧ t.2.size ≤ 60
  pn : x.p.length ≤ 24
  sz : ∀ t ∈ x.s, t.2.size ≤ 60
  sr : ∀ t ∈ x.s, -999999999 ≤ t.1 ∧ t.1 ≤ 999999999
  sn : x.s.length ≤ 24
  ot : otherI x = false
theorem text_nil {t : ByteArray} (h : t.toList = []) : t.size = 0 := by
  rw [ByteArray.toList_eq] at h
  have := congrArg List.length h
  rw [Array.length_toList] at this
  exact this
theorem right_of {x : Itm} (h : chkI x = 0) : Right x := by
  unfold chkI at h
  split at h
  · cases h
  rename_i hk
  split at h
  · cases h
  rename_i ho
  have ho' : otherI x = false := by cases hb : otherI x; rfl; exact absurd hb ho
  have hd := ho
  unfold otherI at hd
  rw [decide_eq_true_eq] at hd
  have ht : x.k = 1 ∨ x.t.size = 0 := by
    by_cases h1 : x.k = 1
    · exact .inl h1
    · exact .inr (text_nil (Classical.byContradiction fun h2 => hd (.inl ⟨h1, h2⟩)))
  have hl : (x.k = 2 ∨ x.k = 3) ∨ x.l = [] := by
    by_cases h1 : x.k = 2 ∨ x.k = 3
    · exact .inl h1
    · refine .inr (Classical.byContradiction fun h2 => hd (.inr (.inl ⟨h1, ?_⟩)))
      exact List.length_pos_iff.2 h2
  have hp : x.k = 4 ∨ x.p = [] := by
    by_cases h1 : x.k = 4
    · exact .inl h1
    · exact .inr (Classical.byContradiction fun h2 => hd (.inr (.inr (.inl ⟨h1, List.length_pos_iff.2 h2⟩))))
  have hs : x.k = 5 ∨ x.s = [] := by
    by_cases h1 : x.k = 5
    · exact .inl h1
    · exact .inr (Classical.byContradiction fun h2 => hd (.inr (.inr (.inr ⟨h1, List.length_pos_iff.2 h2⟩))))
  have e0 : ∀ {α : Type} {l : List α} {P : α → Prop}, l = [] → ∀ t ∈ l, P t := fun e t ht => by rw [e] at ht; cases ht
  have n0 : ∀ {α : Type} {l : List α}, l = [] → l.length ≤ 24 := fun e => by rw [e]; simp
  split at h
  · rename_i h2
    have h4 := sizeT_small h
    have h5 := sizeT_short h
    exact ⟨by omega, by omega, by omega, any_long_not h5, h4, e0 (hp.resolve_left (by omega)), n0 (hp.resolve_left (by omega)), e0 (hs.resolve_left (by omega)), e0 (hs.resolve_left (by omega)), n0 (hs.resolve_left (by omega)), ho'⟩
  · split at h
    · rename_i h2 h3
      unfold setT at h
      split at h
      · rename_i h6; exact absurd h h6
      · rename_i h6
        have h6' := Classical.byContradiction h6
        exact ⟨by omega, by omega, by omega, any_long_not (sizeT_short h6'), sizeT_small h6', e0 (hp.resolve_left (by omega)), n0 (hp.resolve_left (by omega)), e0 (hs.resolve_left (by omega)), e0 (hs.resolve_left (by omega)), n0 (hs.resolve_left (by omega)), ho'⟩
    · split at h
      · rename_i h2 h3 h4
        unfold hashT at h
        split at h
        · rename_i h6; exact absurd h h6
        · rename_i h6
          have h6' := Classical.byContradiction h6
          exact ⟨by omega, by omega, by omega, e0 (hl.resolve_left (by omega)), n0 (hl.resolve_left (by omega)), any_longP_not (sizeT_short h6'), sizeT_small h6', e0 (hs.resolve_left (by omega)), e0 (hs.resolve_left (by omega)), n0 (hs.resolve_left (by omega)), ho'⟩
      · split at h
        · rename_i h2 h3 h4 h5
          unfold scoreT at h
          split at h
          · rename_i h6; exact absurd h h6
          · rename_i h6
            have h6' := Classical.byContradiction h6
            split at h
            · cases h
            · rename_i h7
              exact ⟨by omega, by omega, by omega, e0 (hl.resolve_left (by omega)), n0 (hl.resolve_left (by omega)), e0 (hp.resolve_left (by omega)), n0 (hp.resolve_left (by omega)), any_longS_not (sizeT_short h6'), any_outS_not h7, sizeT_small h6', ho'⟩
        · rename_i h2 h3 h4 h5
          split at h
          · cases h
          · rename_i h6
            have h7 : x.t.size ≤ 60 := by simp only [longT, decide_eq_true_eq] at h6; omega
            exact ⟨by omega, by omega, h7, e0 (hl.resolve_left (by omega)), n0 (hl.resolve_left (by omega)), e0 (hp.resolve_left (by omega)), n0 (hp.resolve_left (by omega)), e0 (hs.resolve_left (by omega)), e0 (hs.resolve_left (by omega)), n0 (hs.resolve_left (by omega)), ho'⟩
end Go.Proofs.YtcidoodaiimhfaaGreat

/- WALK of hashes: where a pair stands; Get. -/
namespace Go.Proofs.YtcidoodaiimhfaaGreat
open Go.RowKit Go.Maps Go.Shelf

/-- where the first one stands that is asked for; -1, if there is none -/
def idxF (p : Pr → Bool) : List Pr → Int
  | [] => -1
  | x :: r => if p x = true then 0 else if idxF p r < 0 then -1 else idxF p r + 1
theorem idxF_lo (p : Pr → Bool) (l : List Pr) : -1 ≤ idxF p l := by
  induction l with
  | nil => simp [idxF]
  | cons x r ih => rw [idxF]; split <;> try split
                   all_goals omega
theorem idxF_hi (p : Pr → Bool) (l : List Pr) : idxF p l < l.length := by
  induction l with
  | nil => simp [idxF]
  | cons x r ih => rw [idxF, List.length_cons]; split <;> try split
                   all_goals omega
theorem idxF_none {p : Pr → Bool} {l : List Pr} (h : idxF p l < 0) : ∀ x ∈ l, p x = false := by
  induction l with
  | nil => intro x hx; cases hx
  | cons a r ih =>
    rw [idxF] at h
    split at h
    · omega
    · rename_i ha
      split at h
      · rename_i hr
        intro x hx
        rcases List.mem_cons.1 hx with e | hx
        · rw [e]; simpa using ha
        · exact ih hr x hx
      · omega
theorem idxF_at {p : Pr → Bool} {l : List Pr} {i : Nat} (h : idxF p l = i) : ∃ hi : i < l.length, p l[i] = true ∧ ∀ j (hj : j < i), p (l[j]'(by omega)) = false := by
  induction l generalizing i with
  | nil => simp [idxF] at h
  | cons a r ih =>
    rw [idxF] at h
    split at h
    · rename_i ha
      obtain rfl : i = 0 := by omega
      exact ⟨by simp, ha, fun j hj => absurd hj (by omega)⟩
    · rename_i ha
      split at h
      · omega
      · obtain ⟨k, hk⟩ : ∃ k : Nat, idxF p r = k := ⟨(idxF p r).toNat, by omega⟩
        obtain rfl : i = k + 1 := by omega
        obtain ⟨h1, h2, h3⟩ := ih hk
        refine ⟨by simp; omega, by simpa using h2, fun j hj => ?_⟩
        cases j with
        | zero => simpa using ha
        | succ j => simpa using h3 j (by omega)
theorem idxByFrom_idxF (p : Pr → Bool) (d : Pr) (l : List Pr) : ∀ i : Nat, Lib.idxByFrom (fun _ y => p y) d l i = if idxF p l < 0 then -1 else idxF p l + i := by
  induction l with
  | nil => intro i; simp [Lib.idxByFrom, idxF]
  | cons x r ih =>
    intro i
    rw [Lib.idxByFrom, idxF]
    by_cases hx : p x = true
    · rw [if_pos hx, if_pos hx]
      simp
    · rw [if_neg hx, if_neg hx, ih (i + 1)]
      have := idxF_lo p r
      by_cases h0 : idxF p r < 0
      · rw [if_pos h0, if_pos h0]; simp
      · rw [if_neg h0, if_neg h0, if_neg (by omega)]
        omega
theorem idxBy_idxF (p : Pr → Bool) (l : List Pr) (d : Pr) : Lib.idxBy (fun _ y => p y) l d = idxF p l := by
  rw [Lib.idxBy, idxByFrom_idxF]
  have := idxF_lo p l
  split <;> omega
set_option maxRecDepth 100000 in
theorem idxP_none (a : Option Addr) (cap : Nat) (fv : Value) (w : World) : Calls Tryz.prog 148 #[.slice a 0 cap, fv] w fun e w' => e = .returned (.int .i64 (-1)) ∧ w' = w := by
  go_enter Tryz.func148, Tryz.ntmps148
  go_wp2_with fail
  refine wp_loop_rounds 1 ?_
  rw [rounds_succ]
  go_wp2_with fail
  go_ret
  exact ⟨rfl, rfl⟩
theorem idxP_any (gf : Nat) (lb : Array Value) (eg : ∀ args w, (callFunc gf args).run Tryz.prog w = .ok (.enter gf args) w) (p : Pr → Bool) (a : Option Addr) (cap : Nat) (ts : List Pr) (w : World) (hs : PairsAt w a ts) (hn : ts.length ≤ 2000000)
    (hp : ∀ W x, Below w.heap.size w W → Calls Tryz.prog gf (#[encPr x] ++ lb) W fun e w' => e = .returned (.bool (p x)) ∧ Below w.heap.size w w') :
    Calls Tryz.prog 148 #[.slice a ts.length cap, .func (.func gf) #[] lb] w fun e w' => e = .returned (.int .i64 (idxF p ts)) ∧ Below w.heap.size w w' := by
  rcases hs with rfl | ⟨g, o, rfl, hc⟩
  · exact (idxP_none a cap _ w).mono fun e w' ⟨h1, h2⟩ => ⟨h1, h2 ▸ Below.refl _ _⟩
  · by_cases h0 : ts = []
    · subst h0
      exact (idxP_none _ cap _ w).mono fun e w' ⟨h1, h2⟩ => ⟨h1, h2 ▸ Below.refl _ _⟩
    · have hpos : 0 < ts.length := List.length_pos_iff.2 h0
      have hb : g < w.heap.size := World.block_lt_of_cell? _ _ (hc 0 hpos).1
      have hh := AnyQ.slices_IndexFunc Tryz.layIdxPair 2 isAggP sizeOfP encL (fun _ => rfl) p gf lb eg g o ts.length cap ts w hp (Nat.le_refl _) (by omega) hb (fun j hj i v hv => by
        obtain ⟨d0, d1⟩ := hc j hj
        have e : ts[j]! = ts[j] := by simp [hj]
        rw [e] at hv
        match i, hv with
        | 0, hv => simp [encL] at hv; subst hv; exact d0
        | 1, hv => simp [encL] at hv; subst hv; exact d1)
      rw [List.take_length, idxBy_idxF] at hh
      exact hh
theorem beq_fd (a b : ByteArray) : (a.toList == b.toList) = decide (a = b) := by
  rw [Bool.eq_iff_iff]
  simp only [beq_iff_eq, decide_eq_true_eq]
  exact ⟨bytes_inj, fun e => by rw [e]⟩
/-- is it of this field? -/
def fieldIs (f : ByteArray) (p : Pr) : Bool := decide (p.1 = f)
def getE (x : Itm) (f : ByteArray) : Int := if asI x 4 ≠ 0 then asI x 4 else if idxF (fieldIs f) x.p < 0 then 5 else 0
def getS (x : Itm) (f : ByteArray) : ByteArray := if asI x 4 ≠ 0 then ⟨#[]⟩ else match lastP x.p f with | some p => p.2 | none => ⟨#[]⟩
set_option maxRecDepth 100000 in
theorem getFn_any (b : Nat) (f : ByteArray) (x : Pr) (W : World) (hc : W.cell? ⟨b, 0, none⟩ = some (.string f)) : Calls Tryz.prog 149 #[.agg #[.string x.1, .string x.2], .pointer (some ⟨b, 0, none⟩)] W fun e w' => e = .returned (.bool (fieldIs f x)) ∧ Below W.heap.size W w' := by
  have hbl := World.block_lt_of_cell? _ _ hc
  have hc2 : (W.alloc (.cells #[.string x.1, .string x.2] 87)).cell? ⟨b, 0, none⟩ = some (.string f) := (((Below.refl _ W).alloc (Nat.le_refl _) _).cell (p := ⟨b, 0, none⟩) hbl).trans hc
  have hbq := beq_fd x.1 f
  unfold fieldIs
  go_enter Tryz.func149, Tryz.ntmps149
  go_wp2_with fail
  go_ret
  exact ⟨by rw [← hbq]; rfl, (Below.refl _ W).alloc (Nat.le_refl _) _⟩
/-- what an item of a hash has -/
theorem risesP_of_riseTo {l : List Pr} (h : riseTo cmpP l l.length = true) : RisesP l := by
  have hadj : ∀ j, j + 1 < l.length → lessT l[j]!.1 l[j + 1]!.1 := fun j hj => by
    rw [riseTo, List.all_eq_true] at h
    have := h j (List.mem_range.2 (by omega))
    simp only [decide_eq_true_eq] at this
    exact (cmpT_lt _ _).1 this
  have hfar : ∀ d i, i + d + 1 < l.length → lessT l[i]!.1 l[i + d + 1]!.1 := fun d => by
    induction d with
    | zero => exact fun i hi => hadj i hi
    | succ d ih => exact fun i hi => lessT_trans (ih i (by omega)) (hadj (i + d + 1) (by omega))
  rw [RisesP, List.pairwise_iff_getElem]
  intro i j hi hj hij
  have := hfar (j - i - 1) i (by omega)
  rw [show i + (j - i - 1) + 1 = j by omega] at this
  simpa [hi, hj] using this
theorem asI_hash {x : Itm} (h : asI x 4 = 0) : RisesP x.p ∧ x.p.length ≤ 24 ∧ ∀ p ∈ x.p, p.1.size ≤ 60 ∧ p.2.size ≤ 60 := by
  unfold asI at h
  split at h
  · rename_i hn
    unfold Itm.isNone at hn
    rw [decide_eq_true_eq] at hn
    rw [hn.2.2.2.1]
    exact ⟨List.Pairwise.nil, by simp, by simp⟩
  · split at h
    · rename_i h1; exact absurd h h1
    · rename_i h1
      have h1 : chkI x = 0 := by simpa using h1
      split at h
      · cases h
      · rename_i hk
        have hk : x.k = 4 := by simpa using hk
        have R := right_of h1
        refine ⟨?_, R.pn, R.pz⟩
        unfold chkI at h1
        rw [if_neg (by omega)] at h1
        split at h1
        · cases h1
        · rw [if_neg (by omega), if_neg (by omega)] at h1
          try rw [if_pos hk] at h1
          unfold hashT at h1
          split at h1
          · rename_i h2; exact absurd h1 h2
          · split at h1
            · rename_i h3; exact risesP_of_riseTo h3
            · cases h1
set_option maxRecDepth 100000 in
set_option maxHeartbeats 2000000 in
theorem hashGet_any (v : Value) (x : Itm) (f : ByteArray) (w : World) (h : ItemIs w v x) :
    Calls Tryz.prog 78 #[v, .string f] w fun e w' => e = .returned (.tuple #[.string (getS x f), .int .i64 (getE x f)]) ∧ Below w.heap.size w w' := by
  have HI := hide h
  obtain ⟨⟨a1, c1, a2, c2, a3, c3, rfl, -, hx2, -⟩, -, -, -, -, -, hl2, -⟩ := h
  have HX := hide hx2
  have HC : Hid (∀ W, Below w.heap.size w W → Calls Tryz.prog 85 #[.agg #[.int .i64 x.k, .string x.t, .slice a1 x.l.length c1, .slice a2 x.p.length c2, .slice a3 x.s.length c3], .int .i64 4] W fun e w' => e = .returned (.int .i64 (asI x 4)) ∧ Below W.heap.size W w') := fun W hW => common_any _ x 4 W (HI.out.below hW)
  clear hx2 HI
  by_cases h0 : asI x 4 = 0
  · obtain ⟨hR, h24, -⟩ := asI_hash h0
    have eg : ∀ args w, (callFunc 149 args).run Tryz.prog w = .ok (.enter 149 args) w := enters_of Tryz.func149 (by kernel_rfl) rfl
    have HN : Hid (∀ W b, Below w.heap.size w W → W.cell? ⟨b, 0, none⟩ = some (.string f) → Calls Tryz.prog 148 #[.slice a2 x.p.length c2, .func (.func 149) #[] #[.pointer (some ⟨b, 0, none⟩)]] W fun e w' => e = .returned (.int .i64 (idxF (fieldIs f) x.p)) ∧ Below W.heap.size W w') := fun W b hW hb => idxP_any 149 #[.pointer (some ⟨b, 0, none⟩)] eg (fieldIs f) a2 c2 x.p W (HX.out.below hW) (by omega) (fun V y hV => (getFn_any b f y V ((hV.cell (p := ⟨b, 0, none⟩) (World.block_lt_of_cell? _ _ hb)).trans hb)).mono fun e w' ⟨h1, h2⟩ => ⟨h1, hV.trans (h2.mono hV.size)⟩)
    rw [h0] at HC
    have hlo := idxF_lo (fieldIs f) x.p
    have hhi := idxF_hi (fieldIs f) x.p
    obtain ⟨GS, GE, hGS, hGE, HG⟩ : ∃ GS GE, GS = getS x f ∧ GE = getE x f ∧ Hid ((idxF (fieldIs f) x.p < 0 → GS = ⟨#[]⟩ ∧ GE = 5) ∧ ∀ (i : Nat) (hi : i < x.p.length), idxF (fieldIs f) x.p = i → GS = x.p[i].2 ∧ GE = 0) := by
      refine ⟨_, _, rfl, rfl, ?_, ?_⟩
      · intro hneg
        have hno : lastP x.p f = none := by
          unfold lastP
          rw [List.find?_eq_none]
          intro q hq
          have := idxF_none hneg q (by simpa using hq)
          simpa [fieldIs] using this
        rw [getE, getS, if_neg (by simp [h0]), if_neg (by simp [h0]), hno, if_pos hneg]
        exact ⟨rfl, rfl⟩
      · intro i hi he
        obtain ⟨hil, hpi, -⟩ := idxF_at he
        have hfi : x.p[i].1 = f := by simpa [fieldIs] using hpi
        have hlast : lastP x.p f = some x.p[i] := by
          have := (lastP_rises hR (p := x.p[i])).2 (List.getElem_mem _)
          rwa [hfi] at this
        rw [getE, getS, if_neg (by simp [h0]), if_neg (by simp [h0]), hlast, if_neg (by omega)]
        exact ⟨rfl, rfl⟩
    rw [← hGS, ← hGE]
    clear hGS hGE
    go_enter Tryz.func78, Tryz.ntmps78
    go_wp2_with fail
    have C0 : Below w.heap.size w ((w.alloc (.cells #[.int .i64 x.k, .string x.t, .slice a1 x.l.length c1, .slice a2 x.p.length c2, .slice a3 x.s.length c3] 28)).alloc (.cells #[.string f] 9)) := ((Below.refl _ w).alloc (Nat.le_refl _) _).alloc (by simp) _
    refine (HC.out _ C0).mono ?_
    rintro e w1 ⟨rfl, hb1⟩
    have C1 := C0.trans (hb1.mono C0.size)
    obtain ⟨hc, hf⟩ := bcell hb1
    have hz : w.heap.size + 1 < w1.heap.size := by have := hb1.size; simp at this; omega
    have hz0 : w.heap.size < w1.heap.size := by omega
    have q2 : w1.cell? ⟨w.heap.size, 3, none⟩ = some (.slice a2 x.p.length c2) := (hc _ _ (by simp; omega)).trans (by simp [go_sem])
    have qf : w1.cell? ⟨w.heap.size + 1, 0, none⟩ = some (.string f) := (hc _ _ (by simp)).trans (by simp [go_sem])
    clear hc hf hb1
    go_wp2_with fail
    refine (HN.out _ _ C1 qf).mono ?_
    rintro e w2 ⟨rfl, hb2⟩
    have C2 := C1.trans (hb2.mono C1.size)
    have q3 : w2.cell? ⟨w.heap.size, 3, none⟩ = some (.slice a2 x.p.length c2) := (hb2.cell (p := ⟨w.heap.size, 3, none⟩) hz0).trans q2
    by_cases hneg : idxF (fieldIs f) x.p < 0
    · go_wp2_with fail
      refine bodyPost_ret (v := .tuple #[.string ⟨#[]⟩, .int .i64 5]) (by simp [results, Tryz.results78, go_sem]) rfl ⟨?_, C2⟩
      rw [(HG.out.1 hneg).1, (HG.out.1 hneg).2]
    · obtain ⟨i, hi⟩ : ∃ i : Nat, idxF (fieldIs f) x.p = i := ⟨(idxF (fieldIs f) x.p).toNat, by omega⟩
      obtain ⟨hil, -, -⟩ := idxF_at hi
      obtain ⟨g, o, rfl, hcs⟩ : ∃ g o, a2 = some ⟨g, o, none⟩ ∧ ∀ i (h : i < x.p.length), w.cell? ⟨g, o + i * 2, none⟩ = some (.string x.p[i].1) ∧ w.cell? ⟨g, o + i * 2 + 1, none⟩ = some (.string x.p[i].2) := by
        rcases HX.out with h | h
        · rw [h] at hil; simp at hil
        · exact h
      have d1 := (C2.cell (p := ⟨g, o + i * 2 + 1, none⟩) (World.block_lt_of_cell? _ _ (hcs i hil).2)).trans (hcs i hil).2
      have hil' : ((i : Nat) : Int) < ((x.p.length : Nat) : Int) := by omega
      have HG2 := hide (HG.out.2 i hil hi)
      rw [hi] at hneg ⊢
      clear hcs HN HC HX HG hlo hhi hi
      generalize x.p[i].2 = X2 at *
      go_wp2_with fail
      refine bodyPost_ret (v := .tuple #[.string X2, .int .i64 0]) (by simp [results, Tryz.results78, go_sem]) rfl ⟨?_, C2⟩
      rw [HG2.out.1, HG2.out.2]
  · rw [getE, getS, if_pos h0, if_pos h0]
    generalize asI x 4 = E at *
    go_enter Tryz.func78, Tryz.ntmps78
    go_wp2_with fail
    have C0 : Below w.heap.size w ((w.alloc (.cells #[.int .i64 x.k, .string x.t, .slice a1 x.l.length c1, .slice a2 x.p.length c2, .slice a3 x.s.length c3] 28)).alloc (.cells #[.string f] 9)) := ((Below.refl _ w).alloc (Nat.le_refl _) _).alloc (by simp) _
    refine (HC.out _ C0).mono ?_
    rintro e w1 ⟨rfl, hb1⟩
    have C1 := C0.trans (hb1.mono C0.size)
    go_wp2_with fail
    refine bodyPost_ret (v := .tuple #[.string ⟨#[]⟩, .int .i64 E]) (by simp [results, Tryz.results78, go_sem]) rfl ⟨rfl, C1⟩
end Go.Proofs.YtcidoodaiimhfaaGreat

/- WALK of hashes: Put. -/
namespace Go.Proofs.YtcidoodaiimhfaaGreat
open Go.RowKit

theorem longH_below (t : ByteArray) (w : World) : Calls Tryz.prog 87 #[.string t] w fun e w' => e = .returned (.bool (longT t)) ∧ w' = w := by
  have h : decide ((60 : Int) < ((t.size : Nat) : Int)) = longT t := by unfold longT; simp; omega
  go_enter Tryz.func87, Tryz.ntmps87
  go_wp2_with fail
  go_ret
  exact ⟨by rw [← h]; rfl, rfl⟩
set_option maxRecDepth 100000 in
theorem longH_any (x : Pr) (w : World) : Calls Tryz.prog 107 #[.agg #[.string x.1, .string x.2]] w fun e w' => e = .returned (.bool (longP x)) ∧ Below w.heap.size w w' := by
  unfold longP
  go_enter Tryz.func107, Tryz.ntmps107
  go_wp2_with fail
  refine (longH_below x.1 _).mono ?_
  rintro e w1 ⟨rfl, rfl⟩
  cases h1 : longT x.1 with
  | true =>
    go_wp2_with fail
    go_ret
    exact ⟨by rw [h1]; rfl, (Below.refl _ w).alloc (Nat.le_refl _) _⟩
  | false =>
    go_wp2_with fail
    refine (longH_below x.2 _).mono ?_
    rintro e w1 ⟨rfl, rfl⟩
    go_wp2_with fail
    go_ret
    exact ⟨by rw [h1]; rfl, (Below.refl _ w).alloc (Nat.le_refl _) _⟩
theorem idxF_any (p : Pr → Bool) (l : List Pr) : decide (0 ≤ idxF p l) = l.any p := by
  rw [Bool.eq_iff_iff, decide_eq_true_iff, List.any_eq_true]
  constructor
  · intro h
    obtain ⟨i, hi⟩ : ∃ i : Nat, idxF p l = i := ⟨(idxF p l).toNat, by omega⟩
    obtain ⟨h1, h2, -⟩ := idxF_at hi
    exact ⟨_, List.getElem_mem h1, h2⟩
  · rintro ⟨x, hx, hp⟩
    refine Decidable.not_not.1 fun h => ?_
    have := idxF_none (show idxF p l < 0 by omega) x hx
    rw [hp] at this
    cases this
set_option maxRecDepth 100000 in
theorem containsH_any (a : Option Addr) (cap : Nat) (ts : List Pr) (w : World) (hs : PairsAt w a ts) (hn : ts.length ≤ 2000000) :
    Calls Tryz.prog 106 #[.slice a ts.length cap, .func (.func 107) #[] #[]] w fun e w' => e = .returned (.bool (ts.any longP)) ∧ Below w.heap.size w w' := by
  have eg : ∀ args w, (callFunc 107 args).run Tryz.prog w = .ok (.enter 107 args) w := enters_of Tryz.func107 (by kernel_rfl) rfl
  have HI := hide (idxP_any 107 #[] eg longP a cap ts w hs hn (fun W x hW => (longH_any x W).mono fun e w' ⟨h1, h2⟩ => ⟨h1, hW.trans (h2.mono hW.size)⟩))
  have HA := hide (idxF_any longP ts)
  clear hs eg
  generalize idxF longP ts = I at *
  go_enter Tryz.func106, Tryz.ntmps106
  go_wp2_with fail
  refine HI.out.mono ?_
  rintro e w1 ⟨rfl, hb⟩
  go_wp2_with fail
  go_ret
  exact ⟨by rw [← HA.out]; rfl, hb⟩
/-- the hash of pairs: nothing, if there are none -/
def kindP (l : List Pr) : Itm := if l = [] then Itm.none else ⟨4, ⟨#[]⟩, [], l, []⟩
set_option maxRecDepth 100000 in
theorem hashOf_any (a : Option Addr) (n cap : Nat) (w : World) (hn : n ≤ 281474976710656) :
    Calls Tryz.prog 108 #[.slice a n cap] w fun e w' => e = .returned (if n = 0 then .agg #[.int .i64 0, .string ⟨#[]⟩, .slice none 0 0, .slice none 0 0, .slice none 0 0] else .agg #[.int .i64 4, .string ⟨#[]⟩, .slice none 0 0, .slice a n cap, .slice none 0 0]) ∧ Below w.heap.size w w' := by
  by_cases h0 : n = 0
  · subst h0
    go_enter Tryz.func108, Tryz.ntmps108
    go_wp2_with fail
    refine bodyPost_ret (v := .agg #[.int .i64 0, .string ⟨#[]⟩, .slice none 0 0, .slice none 0 0, .slice none 0 0]) (by simp [results, Tryz.results108, go_sem]) rfl ⟨rfl, ?_⟩
    go_grown
  · have h0' : ¬ ((n : Nat) : Int) = 0 := by omega
    rw [if_neg h0]
    go_enter Tryz.func108, Tryz.ntmps108
    go_wp2_with fail
    refine bodyPost_ret (v := .agg #[.int .i64 4, .string ⟨#[]⟩, .slice none 0 0, .slice a n cap, .slice none 0 0]) (by simp [results, Tryz.results108, go_sem]) rfl ⟨rfl, ?_⟩
    go_grown
theorem hashOf_item {p : World → Prop} {ao : Option Addr} {cp : Nat} {K : List Pr} (hT : ∀ W, p W → PairsAt W ao K) (hz : ∀ t ∈ K, t.1.size ≤ maxLen ∧ t.2.size ≤ maxLen) (hl : K.length ≤ 281474976710656) :
    ∃ (fk : Int) (fa : Option Addr) (fn fc : Nat), (∀ W, Calls Tryz.prog 108 #[.slice ao K.length cp] W fun e w' => e = .returned (.agg #[.int .i64 fk, .string ⟨#[]⟩, .slice none 0 0, .slice fa fn fc, .slice none 0 0]) ∧ Below W.heap.size W w') ∧ ∀ W, p W → ItemIs W (.agg #[.int .i64 fk, .string ⟨#[]⟩, .slice none 0 0, .slice fa fn fc, .slice none 0 0]) (kindP K) := by
  by_cases h0 : K = []
  · subst h0
    refine ⟨0, none, 0, 0, fun W => ?_, fun w' _ => zero_is w'⟩
    have := hashOf_any ao 0 cp W (by omega)
    rw [if_pos rfl] at this
    exact this
  · refine ⟨4, ao, K.length, cp, fun W => ?_, fun w' hw => ?_⟩
    · have := hashOf_any ao K.length cp W hl
      rw [if_neg (fun e => h0 (List.eq_nil_of_length_eq_zero e))] at this
      exact this
    · rw [kindP, if_neg h0]
      exact ⟨⟨none, 0, ao, cp, none, 0, rfl, .inl rfl, hT w' hw, .inl rfl⟩, (show (0 : Nat) ≤ maxLen by simp), by simp, hz, by simp, by simp, hl, by simp⟩
/-- what Put answers -/
def putE (x : Itm) (l : List Pr) : Int := if asI x 4 ≠ 0 then asI x 4 else if 24 < (togP x.p l).length ∨ l.any longP = true then 2 else if l = [] then 1 else 0
def putI (x : Itm) (l : List Pr) : Itm := if putE x l = 0 then kindP (togP x.p l) else Itm.none
def putN (x : Itm) (l : List Pr) : Int := if putE x l = 0 then (((togP x.p l).length : Nat) : Int) - ((x.p.length : Nat) : Int) else 0
theorem putP_len (l : List Pr) (p : Pr) : (putP l p).length ≤ l.length + 1 := by
  induction l with
  | nil => simp [putP]
  | cons a r ih =>
    rw [putP]
    split
    · simp; omega
    · split <;> simp
theorem togP_len (there l : List Pr) : (togP there l).length ≤ there.length + l.length := by
  induction l generalizing there with
  | nil => simp [togP]
  | cons p r ih =>
    have h1 := ih (putP there p)
    have h2 := putP_len there p
    simp only [togP, List.foldl_cons, List.length_cons] at *
    omega
set_option maxRecDepth 100000 in
set_option maxHeartbeats 4000000 in
theorem hashPut_own (v : Value) (x : Itm) (al : Option Addr) (cl : Nat) (l : List Pr) (w : World) (h : ItemIs w v x) (hl : PairsAt w al l) (hlz : ∀ t ∈ l, t.1.size ≤ maxLen ∧ t.2.size ≤ maxLen) (hll : l.length ≤ 1400000) :
    Calls Tryz.prog 42 #[v, .slice al l.length cl] w fun e w' => ∃ u, e = .returned (.tuple #[u, .int .i64 (putN x l), .int .i64 (putE x l)]) ∧ ItemOwn w.heap.size w' u (putI x l) ∧ Below w.heap.size w w' := by
  have HC : Hid (∀ W, Below w.heap.size w W → Calls Tryz.prog 85 #[v, .int .i64 4] W fun e w' => e = .returned (.int .i64 (asI x 4)) ∧ Below W.heap.size W w') := fun W hW => common_any v x 4 W (h.below hW)
  obtain ⟨⟨a1, c1, a2, c2, a3, c3, rfl, -, hx2, -⟩, tz, -, pz, -, -, -, -⟩ := h
  by_cases h0 : asI x 4 = 0
  · obtain ⟨hrise, hx24, hx60⟩ := asI_hash h0
    rw [h0] at HC
    have HX := hide hx2
    have HL := hide hl
    have HZ : Hid (∀ t ∈ togP x.p l, t.1.size ≤ maxLen ∧ t.2.size ≤ maxLen) := fun t ht => by
      have := lastP_mem ((mem_togP hrise l t).1 ht)
      rcases List.mem_append.1 this with h1 | h1
      · exact pz t h1
      · exact hlz t h1
    have HKL : Hid (∀ W, Below w.heap.size w W → Calls Tryz.prog 106 #[.slice al l.length cl, .func (.func 107) #[] #[]] W fun e w' => e = .returned (.bool (l.any longP)) ∧ Below W.heap.size W w') := fun W hW => containsH_any al cl l W (HL.out.below hW) (by omega)
    have HTOG : Hid (∀ W, Below w.heap.size w W → Calls Tryz.prog 105 #[.slice a2 x.p.length c2, .slice al l.length cl] W fun e w' => ∃ a' cap, e = .returned (.slice a' (togP x.p l).length cap) ∧ PairsFrom W.heap.size w' a' (togP x.p l) ∧ Below W.heap.size W w') := fun W hW => togetherH_any a2 al c2 cl x.p l W (HX.out.below hW) (HL.out.below hW) (by omega) hrise (fun p hp => by
      rcases List.mem_append.1 hp with h1 | h1
      · exact (pz p h1).1
      · exact (hlz p h1).1)
    have hkl := togP_len x.p l
    clear hx2 hl pz hlz HX HL hrise hx60
    by_cases h24 : 24 < (togP x.p l).length
    · have hE : putE x l = 2 := by rw [putE, if_neg (by simp [h0]), if_pos (.inl h24)]
      rw [putN, putI, hE, if_neg (by decide), if_neg (by decide)]
      have h24' : (24 : Int) < (((togP x.p l).length : Nat) : Int) := by omega
      clear hE h0 HZ HKL
      generalize togP x.p l = K at *
      generalize x.l.length = n1 at *
      generalize x.t = t at *
      generalize x.k = k at *
      generalize x.p.length = n2 at *
      generalize x.s.length = n3 at *
      go_enter Tryz.func42, Tryz.ntmps42
      go_wp2_with fail
      refine (HC.out _ (((Below.refl _ w).alloc (Nat.le_refl _) _).alloc (by simp) _)).mono ?_
      rintro e w1 ⟨rfl, hb1⟩
      obtain ⟨hc, hf⟩ := bcell hb1
      have hz : w.heap.size + 1 < w1.heap.size := by have := hb1.size; simp at this; omega
      have y0 : w.heap.size < w1.heap.size := by omega
      have hB1 : Below w.heap.size w w1 := (((Below.refl _ w).alloc (Nat.le_refl _) _).alloc (by simp) _).trans (hb1.mono (by simp; omega))
      go_wp2_with fail
      have HBX : Hid (∀ W, Below w1.heap.size w1 W → (W.cell? ⟨w.heap.size + 1, 0, none⟩ = some (.int .i64 0) ∧ W.cell? ⟨w.heap.size + 1, 1, none⟩ = some (.string ⟨#[]⟩) ∧ W.cell? ⟨w.heap.size + 1, 2, none⟩ = some (.slice none 0 0) ∧ W.cell? ⟨w.heap.size + 1, 3, none⟩ = some (.slice none 0 0) ∧ W.cell? ⟨w.heap.size + 1, 4, none⟩ = some (.slice none 0 0)) ∧ (∀ j, W.frozen? ⟨w.heap.size + 1, j, none⟩ = false) ∧ W.cell? ⟨w.heap.size, 3, none⟩ = some (.slice a2 n2 c2)) := fun W hW =>
        ⟨⟨(hW.cell (p := ⟨w.heap.size + 1, 0, none⟩) hz).trans ((hc _ _ (by simp)).trans (by simp [go_sem])), (hW.cell (p := ⟨w.heap.size + 1, 1, none⟩) hz).trans ((hc _ _ (by simp)).trans (by simp [go_sem])), (hW.cell (p := ⟨w.heap.size + 1, 2, none⟩) hz).trans ((hc _ _ (by simp)).trans (by simp [go_sem])), (hW.cell (p := ⟨w.heap.size + 1, 3, none⟩) hz).trans ((hc _ _ (by simp)).trans (by simp [go_sem])), (hW.cell (p := ⟨w.heap.size + 1, 4, none⟩) hz).trans ((hc _ _ (by simp)).trans (by simp [go_sem]))⟩, fun j => (hW.frozen (p := ⟨w.heap.size + 1, j, none⟩) hz).trans ((hf _ _ (by simp)).trans (by simp [go_sem])), (hW.cell (p := ⟨w.heap.size, 3, none⟩) y0).trans ((hc _ _ (by simp; omega)).trans (by simp [go_sem]))⟩
      refine (HTOG.out _ hB1).mono ?_
      rintro e w5 ⟨a', cap, rfl, hT5, hb5⟩
      have HT5 := hide hT5
      have hb5' : Below w1.heap.size w1 w5 := hb5
      have zz5 := hb5.size
      clear hT5 HTOG
      have hzB := hB1.size
      obtain ⟨⟨r0, r1, r2, r3, r4⟩, fz, x2⟩ := HBX.out w5 hb5'
      have fz0 := fz 0
      have fz1 := fz 1
      have fz2 := fz 2
      have fz3 := fz 3
      have fz4 := fz 4
      go_wp2_with fail
      refine bodyPost_ret (v := .tuple #[.agg #[.int .i64 0, .string ⟨#[]⟩, .slice none 0 0, .slice none 0 0, .slice none 0 0], .int .i64 0, .int .i64 2]) (by simp [results, Tryz.results42, go_sem, r0, r1, r2, r3, r4]) rfl ⟨_, rfl, fun w'' _ => zero_is w'', ?_⟩
      have hbb := hB1.trans (hb5'.mono hB1.size)
      go_grown
    · have h24' : ¬ (24 : Int) < (((togP x.p l).length : Nat) : Int) := by omega
      by_cases hlong : l.any longP = true
      · have hE : putE x l = 2 := by rw [putE, if_neg (by simp [h0]), if_pos (.inr hlong)]
        rw [putN, putI, hE, if_neg (by decide), if_neg (by decide)]
        rw [hlong] at HKL
        clear hE h0 HZ hlong
        generalize togP x.p l = K at *
        generalize x.l.length = n1 at *
        generalize x.t = t at *
        generalize x.k = k at *
        generalize x.p.length = n2 at *
        generalize x.s.length = n3 at *
        go_enter Tryz.func42, Tryz.ntmps42
        go_wp2_with fail
        refine (HC.out _ (((Below.refl _ w).alloc (Nat.le_refl _) _).alloc (by simp) _)).mono ?_
        rintro e w1 ⟨rfl, hb1⟩
        obtain ⟨hc, hf⟩ := bcell hb1
        have hz : w.heap.size + 1 < w1.heap.size := by have := hb1.size; simp at this; omega
        have y0 : w.heap.size < w1.heap.size := by omega
        have hB1 : Below w.heap.size w w1 := (((Below.refl _ w).alloc (Nat.le_refl _) _).alloc (by simp) _).trans (hb1.mono (by simp; omega))
        go_wp2_with fail
        have HBX : Hid (∀ W, Below w1.heap.size w1 W → (W.cell? ⟨w.heap.size + 1, 0, none⟩ = some (.int .i64 0) ∧ W.cell? ⟨w.heap.size + 1, 1, none⟩ = some (.string ⟨#[]⟩) ∧ W.cell? ⟨w.heap.size + 1, 2, none⟩ = some (.slice none 0 0) ∧ W.cell? ⟨w.heap.size + 1, 3, none⟩ = some (.slice none 0 0) ∧ W.cell? ⟨w.heap.size + 1, 4, none⟩ = some (.slice none 0 0)) ∧ (∀ j, W.frozen? ⟨w.heap.size + 1, j, none⟩ = false) ∧ W.cell? ⟨w.heap.size, 3, none⟩ = some (.slice a2 n2 c2)) := fun W hW =>
          ⟨⟨(hW.cell (p := ⟨w.heap.size + 1, 0, none⟩) hz).trans ((hc _ _ (by simp)).trans (by simp [go_sem])), (hW.cell (p := ⟨w.heap.size + 1, 1, none⟩) hz).trans ((hc _ _ (by simp)).trans (by simp [go_sem])), (hW.cell (p := ⟨w.heap.size + 1, 2, none⟩) hz).trans ((hc _ _ (by simp)).trans (by simp [go_sem])), (hW.cell (p := ⟨w.heap.size + 1, 3, none⟩) hz).trans ((hc _ _ (by simp)).trans (by simp [go_sem])), (hW.cell (p := ⟨w.heap.size + 1, 4, none⟩) hz).trans ((hc _ _ (by simp)).trans (by simp [go_sem]))⟩, fun j => (hW.frozen (p := ⟨w.heap.size + 1, j, none⟩) hz).trans ((hf _ _ (by simp)).trans (by simp [go_sem])), (hW.cell (p := ⟨w.heap.size, 3, none⟩) y0).trans ((hc _ _ (by simp; omega)).trans (by simp [go_sem]))⟩
        refine (HTOG.out _ hB1).mono ?_
        rintro e w5 ⟨a', cap, rfl, hT5, hb5⟩
        have HT5 := hide hT5
        have hb5' : Below w1.heap.size w1 w5 := hb5
        have zz5 := hb5.size
        clear hT5 HTOG
        go_wp2_with fail
        refine (HKL.out _ (hB1.trans (hb5'.mono hB1.size))).mono ?_
        rintro e w6 ⟨rfl, hb6⟩
        have hb6' : Below w1.heap.size w1 w6 := hb5'.trans (hb6.mono hb5'.size)
        have hzB := hB1.size
        obtain ⟨⟨r0, r1, r2, r3, r4⟩, fz, x2⟩ := HBX.out w6 hb6'
        have fz0 := fz 0
        have fz1 := fz 1
        have fz2 := fz 2
        have fz3 := fz 3
        have fz4 := fz 4
        go_wp2_with fail
        refine bodyPost_ret (v := .tuple #[.agg #[.int .i64 0, .string ⟨#[]⟩, .slice none 0 0, .slice none 0 0, .slice none 0 0], .int .i64 0, .int .i64 2]) (by simp [results, Tryz.results42, go_sem, r0, r1, r2, r3, r4]) rfl ⟨_, rfl, fun w'' _ => zero_is w'', ?_⟩
        have hbb := hB1.trans (hb6'.mono hB1.size)
        go_grown
      · have hlong' : l.any longP = false := by simpa using hlong
        rw [hlong'] at HKL
        by_cases hne : l = []
        · have hE : putE x l = 1 := by rw [putE, if_neg (by simp [h0]), if_neg (by simp [h24, hlong']), if_pos hne]
          rw [putN, putI, hE, if_neg (by decide), if_neg (by decide)]
          have hl0 : l.length = 0 := by rw [hne]; rfl
          clear hE h0 HZ hlong hlong' hne
          generalize togP x.p l = K at *
          generalize l.length = nl at *
          subst hl0
          generalize x.l.length = n1 at *
          generalize x.t = t at *
          generalize x.k = k at *
          generalize x.p.length = n2 at *
          generalize x.s.length = n3 at *
          go_enter Tryz.func42, Tryz.ntmps42
          go_wp2_with fail
          refine (HC.out _ (((Below.refl _ w).alloc (Nat.le_refl _) _).alloc (by simp) _)).mono ?_
          rintro e w1 ⟨rfl, hb1⟩
          obtain ⟨hc, hf⟩ := bcell hb1
          have hz : w.heap.size + 1 < w1.heap.size := by have := hb1.size; simp at this; omega
          have y0 : w.heap.size < w1.heap.size := by omega
          have hB1 : Below w.heap.size w w1 := (((Below.refl _ w).alloc (Nat.le_refl _) _).alloc (by simp) _).trans (hb1.mono (by simp; omega))
          go_wp2_with fail
          have HBX : Hid (∀ W, Below w1.heap.size w1 W → (W.cell? ⟨w.heap.size + 1, 0, none⟩ = some (.int .i64 0) ∧ W.cell? ⟨w.heap.size + 1, 1, none⟩ = some (.string ⟨#[]⟩) ∧ W.cell? ⟨w.heap.size + 1, 2, none⟩ = some (.slice none 0 0) ∧ W.cell? ⟨w.heap.size + 1, 3, none⟩ = some (.slice none 0 0) ∧ W.cell? ⟨w.heap.size + 1, 4, none⟩ = some (.slice none 0 0)) ∧ (∀ j, W.frozen? ⟨w.heap.size + 1, j, none⟩ = false) ∧ W.cell? ⟨w.heap.size, 3, none⟩ = some (.slice a2 n2 c2)) := fun W hW =>
            ⟨⟨(hW.cell (p := ⟨w.heap.size + 1, 0, none⟩) hz).trans ((hc _ _ (by simp)).trans (by simp [go_sem])), (hW.cell (p := ⟨w.heap.size + 1, 1, none⟩) hz).trans ((hc _ _ (by simp)).trans (by simp [go_sem])), (hW.cell (p := ⟨w.heap.size + 1, 2, none⟩) hz).trans ((hc _ _ (by simp)).trans (by simp [go_sem])), (hW.cell (p := ⟨w.heap.size + 1, 3, none⟩) hz).trans ((hc _ _ (by simp)).trans (by simp [go_sem])), (hW.cell (p := ⟨w.heap.size + 1, 4, none⟩) hz).trans ((hc _ _ (by simp)).trans (by simp [go_sem]))⟩, fun j => (hW.frozen (p := ⟨w.heap.size + 1, j, none⟩) hz).trans ((hf _ _ (by simp)).trans (by simp [go_sem])), (hW.cell (p := ⟨w.heap.size, 3, none⟩) y0).trans ((hc _ _ (by simp; omega)).trans (by simp [go_sem]))⟩
          refine (HTOG.out _ hB1).mono ?_
          rintro e w5 ⟨a', cap, rfl, hT5, hb5⟩
          have HT5 := hide hT5
          have hb5' : Below w1.heap.size w1 w5 := hb5
          have zz5 := hb5.size
          clear hT5 HTOG
          go_wp2_with fail
          refine (HKL.out _ (hB1.trans (hb5'.mono hB1.size))).mono ?_
          rintro e w6 ⟨rfl, hb6⟩
          have hb6' : Below w1.heap.size w1 w6 := hb5'.trans (hb6.mono hb5'.size)
          have hzB := hB1.size
          obtain ⟨⟨r0, r1, r2, r3, r4⟩, fz, x2⟩ := HBX.out w6 hb6'
          have fz0 := fz 0
          have fz1 := fz 1
          have fz2 := fz 2
          have fz3 := fz 3
          have fz4 := fz 4
          go_wp2_with fail
          refine bodyPost_ret (v := .tuple #[.agg #[.int .i64 0, .string ⟨#[]⟩, .slice none 0 0, .slice none 0 0, .slice none 0 0], .int .i64 0, .int .i64 1]) (by simp [results, Tryz.results42, go_sem, r0, r1, r2, r3, r4]) rfl ⟨_, rfl, fun w'' _ => zero_is w'', ?_⟩
          have hbb := hB1.trans (hb6'.mono hB1.size)
          go_grown
        · have hE : putE x l = 0 := by rw [putE, if_neg (by simp [h0]), if_neg (by simp [h24, hlong']), if_neg hne]
          rw [putN, putI, hE, if_pos rfl, if_pos rfl]
          have hl0 : ¬ ((l.length : Nat) : Int) = 0 := fun e => hne (List.eq_nil_of_length_eq_zero (by omega))
          clear hE h0 hlong hlong' hne
          generalize togP x.p l = K at *
          generalize x.l.length = n1 at *
          generalize x.t = t at *
          generalize x.k = k at *
          generalize x.p.length = n2 at *
          generalize x.s.length = n3 at *
          go_enter Tryz.func42, Tryz.ntmps42
          go_wp2_with fail
          refine (HC.out _ (((Below.refl _ w).alloc (Nat.le_refl _) _).alloc (by simp) _)).mono ?_
          rintro e w1 ⟨rfl, hb1⟩
          obtain ⟨hc, hf⟩ := bcell hb1
          have hz : w.heap.size + 1 < w1.heap.size := by have := hb1.size; simp at this; omega
          have y0 : w.heap.size < w1.heap.size := by omega
          have hB1 : Below w.heap.size w w1 := (((Below.refl _ w).alloc (Nat.le_refl _) _).alloc (by simp) _).trans (hb1.mono (by simp; omega))
          go_wp2_with fail
          have HBX : Hid (∀ W, Below w1.heap.size w1 W → (W.cell? ⟨w.heap.size + 1, 0, none⟩ = some (.int .i64 0) ∧ W.cell? ⟨w.heap.size + 1, 1, none⟩ = some (.string ⟨#[]⟩) ∧ W.cell? ⟨w.heap.size + 1, 2, none⟩ = some (.slice none 0 0) ∧ W.cell? ⟨w.heap.size + 1, 3, none⟩ = some (.slice none 0 0) ∧ W.cell? ⟨w.heap.size + 1, 4, none⟩ = some (.slice none 0 0)) ∧ (∀ j, W.frozen? ⟨w.heap.size + 1, j, none⟩ = false) ∧ W.cell? ⟨w.heap.size, 3, none⟩ = some (.slice a2 n2 c2)) := fun W hW =>
            ⟨⟨(hW.cell (p := ⟨w.heap.size + 1, 0, none⟩) hz).trans ((hc _ _ (by simp)).trans (by simp [go_sem])), (hW.cell (p := ⟨w.heap.size + 1, 1, none⟩) hz).trans ((hc _ _ (by simp)).trans (by simp [go_sem])), (hW.cell (p := ⟨w.heap.size + 1, 2, none⟩) hz).trans ((hc _ _ (by simp)).trans (by simp [go_sem])), (hW.cell (p := ⟨w.heap.size + 1, 3, none⟩) hz).trans ((hc _ _ (by simp)).trans (by simp [go_sem])), (hW.cell (p := ⟨w.heap.size + 1, 4, none⟩) hz).trans ((hc _ _ (by simp)).trans (by simp [go_sem]))⟩, fun j => (hW.frozen (p := ⟨w.heap.size + 1, j, none⟩) hz).trans ((hf _ _ (by simp)).trans (by simp [go_sem])), (hW.cell (p := ⟨w.heap.size, 3, none⟩) y0).trans ((hc _ _ (by simp; omega)).trans (by simp [go_sem]))⟩
          refine (HTOG.out _ hB1).mono ?_
          rintro e w5 ⟨a', cap, rfl, hT5, hb5⟩
          have HT5 := hide hT5
          have hb5' : Below w1.heap.size w1 w5 := hb5
          have zz5 := hb5.size
          clear hT5 HTOG
          go_wp2_with fail
          refine (HKL.out _ (hB1.trans (hb5'.mono hB1.size))).mono ?_
          rintro e w6 ⟨rfl, hb6⟩
          have hb6' : Below w1.heap.size w1 w6 := hb5'.trans (hb6.mono hb5'.size)
          have z6 := hb6.size
          obtain ⟨fk, fa, fn, fc, ho, hi⟩ := hashOf_item (p := fun W' => ∀ g o u, w1.heap.size ≤ g → w6.cell? ⟨g, o, none⟩ = some u → w6.frozen? ⟨g, o, none⟩ = false → W'.cell? ⟨g, o, none⟩ = some u) (cp := cap) (fun W' hW' => HT5.out W' (fun g o u hg hu hf => hW' g o u hg ((hb6.cell (p := ⟨g, o, none⟩) (World.block_lt_of_cell? _ _ hu)).trans hu) ((hb6.frozen (p := ⟨g, o, none⟩) (World.block_lt_of_cell? _ _ hu)).trans hf))) HZ.out (by omega)
          have HO := hide ho
          have HI := hide hi
          clear ho hi HT5 HZ HC HKL
          go_wp2_with fail
          obtain ⟨-, -, x2⟩ := HBX.out w6 hb6'
          have hbd : Below w1.heap.size w1 w6.drew := hb6'.drew
          have nn1 : w6.heap.size ≠ w.heap.size + 1 := by omega
          have nn2 : w.heap.size + 1 ≠ w6.heap.size := by omega
          have nn3 : w.heap.size ≠ w.heap.size + 1 := by omega
          have nn4 : w.heap.size + 1 ≠ w.heap.size := by omega
          have nn5 : ¬ w.heap.size = w.heap.size + 1 := by omega
          have hwr := wrap_small (((K.length : Nat) : Int) - ((n2 : Nat) : Int)) (by omega) (by omega)
          have hzl := hb6'.size
          have hz1 := hB1.size
          clear hc hf hb1
          go_region_held3 (fun w' => w'.cell? ⟨w.heap.size, 3, none⟩ = some (.slice a2 n2 c2)) (go_keep)
            ((go_at_call 108; refine (HO.out _).mono ?_; rintro e w9 ⟨rfl, hb9⟩; have hb9' : Below w1.heap.size w1 w9 := hbd.trans (hb9.mono hzl); obtain ⟨⟨b0, b1, b2, b3, b4⟩, fz, x3⟩ := HBX.out w9 hb9'; have fz0 := fz 0; have fz1 := fz 1; have fz2 := fz 2; have fz3 := fz 3; have fz4 := fz 4))
          all_goals
            go_wp2_with fail
            refine bodyPost_ret (v := .tuple #[.agg #[.int .i64 fk, .string ⟨#[]⟩, .slice none 0 0, .slice fa fn fc, .slice none 0 0], .int .i64 (((K.length : Nat) : Int) - ((n2 : Nat) : Int)), .int .i64 0]) (by simp [results, Tryz.results42, go_sem, b0, b1, b2, b3, b4]) rfl ⟨_, rfl, ?_, ?_⟩
            · exact fun w'' hw => HI.out w'' (fun g' o' u' hg hu hf => hw g' o' u' (by omega) ((five_apart w9 (w.heap.size + 1) _ _ _ _ _ g' o' (by omega)).trans ((hb9.cell (p := ⟨g', o', none⟩) (World.block_lt_of_cell? w6 _ hu)).trans hu)) (by simp only [World.frozen?_setCell]; exact (hb9.frozen (p := ⟨g', o', none⟩) (World.block_lt_of_cell? w6 _ hu)).trans hf))
            · have hb9'' := hB1.trans (hb9'.mono hz1)
              go_grown
  · have hE : putE x l = asI x 4 := by rw [putE, if_pos h0]
    rw [putN, putI, hE, if_neg h0, if_neg h0]
    have h0' : (asI x 4 == 0) = false := by rw [beq_eq_false_iff_ne]; exact h0
    clear hx2 hl hE
    generalize asI x 4 = E at *
    generalize x.l.length = n1 at *
    generalize x.t = t at *
    generalize x.k = k at *
    generalize x.p.length = n2 at *
    generalize x.s.length = n3 at *
    go_enter Tryz.func42, Tryz.ntmps42
    go_wp2_with fail
    refine (HC.out _ (((Below.refl _ w).alloc (Nat.le_refl _) _).alloc (by simp) _)).mono ?_
    rintro e w1 ⟨rfl, hb1⟩
    obtain ⟨hc, hf⟩ := bcell hb1
    have hz : w.heap.size + 1 < w1.heap.size := by have := hb1.size; simp at this; omega
    have y0 : w.heap.size < w1.heap.size := by omega
    have hB1 : Below w.heap.size w w1 := (((Below.refl _ w).alloc (Nat.le_refl _) _).alloc (by simp) _).trans (hb1.mono (by simp; omega))
    go_wp2_with fail
    refine bodyPost_ret (v := .tuple #[.agg #[.int .i64 0, .string ⟨#[]⟩, .slice none 0 0, .slice none 0 0, .slice none 0 0], .int .i64 0, .int .i64 E]) (by simp [results, Tryz.results42, go_sem, hc]) rfl ⟨_, rfl, fun w'' _ => zero_is w'', ?_⟩
    go_grown
theorem hashPut_any (v : Value) (x : Itm) (al : Option Addr) (cl : Nat) (l : List Pr) (w : World) (h : ItemIs w v x) (hl : PairsAt w al l) (hlz : ∀ t ∈ l, t.1.size ≤ maxLen ∧ t.2.size ≤ maxLen) (hll : l.length ≤ 1400000) :
    Calls Tryz.prog 42 #[v, .slice al l.length cl] w fun e w' => ∃ u, e = .returned (.tuple #[u, .int .i64 (putN x l), .int .i64 (putE x l)]) ∧ ItemFrom w.heap.size w' u (putI x l) ∧ Below w.heap.size w w' :=
  (hashPut_own v x al cl l w h hl hlz hll).mono fun _ _ ⟨u, he, hi, hb⟩ => ⟨u, he, hi.from, hb⟩
end Go.Proofs.YtcidoodaiimhfaaGreat

/- WALK of hashes: a copy of pairs; which ones go. -/
namespace Go.Proofs.YtcidoodaiimhfaaGreat
open Go.RowKit

set_option maxRecDepth 100000 in
set_option maxHeartbeats 1000000 in
theorem cloneP_any (a : Option Addr) (c : Nat) (L : List Pr) (w : World) (hL : PairsAt w a L) (hn : L.length ≤ 1000000) :
    Calls Tryz.prog 110 #[.slice a L.length c] w fun e w' => ∃ v, e = .returned v ∧ w'.ownsRow w.heap.size 87 2 v L.length (rowP L) ∧ Below w.heap.size w w' := by
  cases a with
  | none =>
    obtain rfl : L = [] := by
      rcases hL with h | ⟨g, o, h, _⟩
      · exact h
      · cases h
    have he : ∀ w : World, (binOp .eql 25 (.slice none 0 c) (.slice none 0 0)).run Tryz.prog w = .ok (.bool true) w := fun _ => rfl
    go_enter Tryz.func110, Tryz.ntmps110
    go_wp2_with fail
    go_ret
    exact ⟨_, rfl, World.ownsRow_nil _ _ _ _, Below.refl _ _⟩
  | some ad =>
    have HL := hide hL
    clear hL
    have HB : Below w.heap.size w (w.alloc (.cells #[] 87)) := (Below.refl _ w).alloc (Nat.le_refl _) _
    have HO : (w.alloc (.cells #[] 87)).ownsRow w.heap.size 87 2 (.slice (some ⟨w.heap.size, 0, none⟩) 0 0) 0 [] := World.ownsRow_lit w #[] 0 (Nat.le_refl _) (Nat.zero_le _) rfl
    have HLB := HL.out.below HB
    have he : ∀ w : World, (binOp .eql 25 (.slice (some ad) L.length c) (.slice none 0 0)).run Tryz.prog w = .ok (.bool false) w := fun _ => rfl
    go_enter Tryz.func110, Tryz.ntmps110
    go_wp2_with (at_builtin; refine wpList_append_pairs rfl _ _ rfl w.heap.size _ 0 [] rfl HO (some ad) c L rfl HLB (by omega) (by simp) ?_)
    intro v2 w2 hown2 hg2
    have hb2 : Below w.heap.size w w2 := HB.grown hg2 HB.size (fun j hj => (HO.lt j hj).1)
    go_wp2_with fail
    go_ret
    exact ⟨v2, rfl, hown2, hb2⟩
set_option maxRecDepth 100000 in
set_option maxHeartbeats 1000000 in
theorem indexT_any (a : Option Addr) (cap : Nat) (ts : List ByteArray) (s : ByteArray) (w : World) (hs : TextsAt w a ts) (hn : ts.length ≤ 281474976710656) :
    Calls Tryz.prog 159 #[.slice a ts.length cap, .string s] w fun e w' => (∃ n : Int, e = .returned (.int .i64 n) ∧ decide (0 ≤ n) = hasT ts s) ∧ w' = w := by
  have HS := hide hs
  clear hs
  go_enter Tryz.func159, Tryz.ntmps159
  go_wp2_with fail
  go_loop [8] (fun i => ∃ k : Nat, k ≤ ts.length ∧ i = .int .i64 k ∧ Hid (s ∉ ts.take k)) (fun i => ts.length - (intOf i).toNat)
  case atStart => exact ⟨0, Nat.zero_le _, rfl, by simp [Hid]⟩
  case round =>
    obtain ⟨k, hk, rfl, HA⟩ := hrel
    by_cases hlt : k < ts.length
    · have hlt' : ((k : Nat) : Int) < ((ts.length : Nat) : Int) := by omega
      obtain ⟨g, o, rfl, hcs⟩ : ∃ g o, a = some ⟨g, o, none⟩ ∧ ∀ i (h : i < ts.length), w.cell? ⟨g, o + i, none⟩ = some (.string ts[i]) := by
        rcases HS.out with h | h
        · subst h; simp at hlt
        · exact h
      have d0 : w.cell? ⟨g, o + k, none⟩ = some (.string ts[k]) := hcs k hlt
      have HT : Hid (ts[k] ≠ s → s ∉ ts.take (k + 1)) := fun hne hm => by
        rw [List.take_succ_eq_append_getElem hlt, List.mem_append] at hm
        rcases hm with hm | hm
        · exact HA.out hm
        · simp at hm; exact hne hm.symm
      have HF : Hid (ts[k] = s → hasT ts s = true) := fun he => hasT_iff.2 (he ▸ List.getElem_mem hlt)
      have hbq := beq_fd s ts[k]
      clear hcs HS
      generalize ts[k] = X at *
      by_cases hXs : X = s
      · have HF' := hide (HF.out hXs)
        have hb1 : (s.toList == X.toList) = true := by rw [hbq]; exact decide_eq_true hXs.symm
        have HXs := hide hXs
        clear HT HF hbq hXs
        go_wp2_with fail
        go_ret
        exact ⟨⟨_, rfl, by rw [HF'.out]; simp⟩, rfl⟩
      · have HT' := hide (HT.out hXs)
        have hb1 : (s.toList == X.toList) = false := by rw [hbq]; exact decide_eq_false (fun e => hXs e.symm)
        have HXs := hide hXs
        clear HT HF hbq hXs
        go_wp2_with fail
        go_round
        case rel => exact ⟨k + 1, by omega, by go_num, HT'⟩
        case measure => simp [intOf]; omega
    · have hge : ¬ ((k : Nat) : Int) < ((ts.length : Nat) : Int) := by omega
      obtain rfl : k = ts.length := by omega
      have HY : Hid (hasT ts s = false) := by have := HA.out; rw [List.take_length] at this; exact hasT_not this
      go_wp2_with fail
      go_ret
      exact ⟨⟨-1, rfl, by rw [HY.out]; rfl⟩, rfl⟩
theorem containsT_any (a : Option Addr) (cap : Nat) (ts : List ByteArray) (s : ByteArray) (w : World) (hs : TextsAt w a ts) (hn : ts.length ≤ 281474976710656) :
    Calls Tryz.prog 101 #[.slice a ts.length cap, .string s] w fun e w' => e = .returned (.bool (hasT ts s)) ∧ w' = w := by
  have HI := hide (indexT_any a cap ts s w hs hn)
  clear hs
  go_enter Tryz.func101, Tryz.ntmps101
  go_wp2_with fail
  refine HI.out.mono ?_
  rintro e w1 ⟨⟨n, rfl, hd⟩, rfl⟩
  have HD := hide hd
  clear hd
  go_wp2_with fail
  go_ret
  exact ⟨by rw [← HD.out]; rfl, rfl⟩
set_option maxRecDepth 100000 in
theorem goesP_any (b : Nat) (al : Option Addr) (cl : Nat) (l : List ByteArray) (x : Pr) (W : World) (hc : W.cell? ⟨b, 0, none⟩ = some (.slice al l.length cl)) (hl : TextsAt W al l) (hn : l.length ≤ 281474976710656) :
    Calls Tryz.prog 111 #[.agg #[.string x.1, .string x.2], .pointer (some ⟨b, 0, none⟩)] W fun e w' => e = .returned (.bool (hasT l x.1)) ∧ Below W.heap.size W w' := by
  have hbl := World.block_lt_of_cell? _ _ hc
  have hB : Below W.heap.size W (W.alloc (.cells #[.string x.1, .string x.2] 87)) := (Below.refl _ W).alloc (Nat.le_refl _) _
  have hc2 : (W.alloc (.cells #[.string x.1, .string x.2] 87)).cell? ⟨b, 0, none⟩ = some (.slice al l.length cl) := (hB.cell (p := ⟨b, 0, none⟩) hbl).trans hc
  have HN := hide (containsT_any al cl l x.1 _ (hl.below hB) hn)
  clear hl hc
  generalize hasT l x.1 = R at *
  go_enter Tryz.func111, Tryz.ntmps111
  go_wp2_with fail
  refine HN.out.mono ?_
  rintro e w1 ⟨rfl, rfl⟩
  go_wp2_with fail
  go_ret
  exact ⟨rfl, hB⟩
end Go.Proofs.YtcidoodaiimhfaaGreat

/- WALK of hashes: slices.DeleteFunc over pairs. -/
namespace Go.Proofs.YtcidoodaiimhfaaGreat
open Go.RowKit

/-- a row of pairs that may be written -/
structure RowAt (w : World) (g : Nat) (M : List Pr) : Prop where
  c : ∀ i (h : i < M.length), w.cell? ⟨g, i * 2, none⟩ = some (.string M[i].1) ∧ w.cell? ⟨g, i * 2 + 1, none⟩ = some (.string M[i].2)
  f : ∀ o, w.frozen? ⟨g, o, none⟩ = false
theorem RowAt.of {w : World} {base g cap : Nat} {M : List Pr} (h : w.ownsRow base 87 2 (.slice (some ⟨g, 0, none⟩) M.length cap) M.length (rowP M)) : RowAt w g M := by
  refine ⟨fun i hi => ?_, fun o => ?_⟩
  · obtain ⟨r1, r2⟩ := rowP_at M i hi
    exact ⟨by rw [h.cellAt _ (by omega)]; exact r1, by rw [h.cellAt _ (by omega)]; exact r2⟩
  · rcases h.2 with ⟨h, _⟩ | ⟨g', cap', cur, h, _, hg, _⟩
    · cases h
    · obtain rfl : g = g' := (by simpa using h : g = g' ∧ cap = cap').1
      simp [World.frozen?, hg]
theorem RowAt.below {w w' : World} {g : Nat} {M : List Pr} (h : RowAt w g M) (hlt : g < w.heap.size) (hb : Below w.heap.size w w') : RowAt w' g M :=
  ⟨fun i hi => ⟨(hb.cell (p := ⟨g, i * 2, none⟩) hlt).trans (h.c i hi).1, (hb.cell (p := ⟨g, i * 2 + 1, none⟩) hlt).trans (h.c i hi).2⟩, fun o => (hb.frozen (p := ⟨g, o, none⟩) hlt).trans (h.f o)⟩
theorem RowAt.set {w : World} {g : Nat} {M : List Pr} (h : RowAt w g M) (i : Nat) (hi : i < M.length) (p : Pr) : RowAt ((w.setCell ⟨g, i * 2, none⟩ (.string p.1)).setCell ⟨g, i * 2 + 1, none⟩ (.string p.2)) g (M.set i p) := by
  obtain ⟨c0, c1⟩ := h.c i hi
  refine ⟨fun j hj => ?_, fun o => ?_⟩
  · rw [List.length_set] at hj
    obtain ⟨d0, d1⟩ := h.c j hj
    have oth : ∀ (W : World) (a b : Nat) (u : Value), a ≠ b → (W.setCell ⟨g, a, none⟩ u).cell? ⟨g, b, none⟩ = W.cell? ⟨g, b, none⟩ := fun W a b u hab => World.cell?_setCell_other _ _ _ _ (by intro e; injection e with _ e; exact hab e)
    by_cases hij : i = j
    · subst hij
      rw [List.getElem_set_self]
      refine ⟨?_, ?_⟩
      · rw [oth _ _ _ _ (by omega)]
        exact World.cell?_setCell_same' _ _ _ (by rw [c0]; rfl)
      · exact World.cell?_setCell_same' _ _ _ (by rw [oth _ _ _ _ (by omega), c1]; rfl)
    · rw [List.getElem_set_ne hij]
      refine ⟨?_, ?_⟩
      · rw [oth _ _ _ _ (by omega), oth _ _ _ _ (by omega)]; exact d0
      · rw [oth _ _ _ _ (by omega), oth _ _ _ _ (by omega)]; exact d1
  · rw [World.frozen?_setCell, World.frozen?_setCell]; exact h.f o
theorem belowSetCells {n0 g : Nat} {w0 : World} (hg : n0 ≤ g) : ∀ (vs : List Value) (f : Nat) (w : World), Below n0 w0 w → Below n0 w0 (w.setCells g f vs)
  | [], _, _, h => h
  | v :: r, f, _, h => belowSetCells hg r (f + 1) _ (h.setCell (p := ⟨g, f, none⟩) hg v)
/-- clear of what is behind -/
theorem run_clear_pairs (w : World) (g f n c : Nat) (hn : 0 < n) (hc : ∀ j, j < n * 2 → (w.cell? ⟨g, f + j, none⟩).isSome = true) (hf : ∀ j, w.frozen? ⟨g, j, none⟩ = false) :
    ∃ vs : List Value, vs.length = n * 2 ∧ ∀ ty, (Builtin.clear_ #[25] ty #[.slice (some ⟨g, f, none⟩) n c]).run Tryz.prog w = .ok (.tuple #[]) (w.setCells g f vs) := by
  have hl : ((Builtin.zeroCells #[.string ⟨#[]⟩, .string ⟨#[]⟩] n).toList).length = n * 2 := by rw [Array.length_toList, size_zeroCells]; rfl
  have h1 : ∀ v ∈ (Builtin.zeroCells #[.string ⟨#[]⟩, .string ⟨#[]⟩] n).toList, v.oneCell' = true := by
    intro v hv
    simp [Builtin.zeroCells] at hv
    obtain ⟨i, _, rfl⟩ := hv
    have : i % 2 = 0 ∨ i % 2 = 1 := by omega
    rcases this with h | h <;> rw [h] <;> rfl
  have hst := run_storeCells_cells (P := Tryz.prog) g f (Builtin.zeroCells #[.string ⟨#[]⟩, .string ⟨#[]⟩] n).toList 0 w (by rw [hl]; simpa using hc) (fun j _ => hf _) h1
  rw [Nat.add_zero] at hst
  refine ⟨_, hl, fun ty => ?_⟩
  obtain ⟨m, rfl⟩ : ∃ m, n = m + 1 := ⟨n - 1, by omega⟩
  simp [Builtin.clear_, run_underlying Tryz.underlying25, Value.cells, hst]
/-- what stays -/
def stayP (L : List Pr) (l : List ByteArray) : List Pr := L.filter fun p => !hasT l p.1
theorem stayP_len (L : List Pr) (l : List ByteArray) : (stayP L l).length ≤ L.length := List.length_filter_le _ _
theorem stay_all {L : List Pr} {l : List ByteArray} (h : ∀ x ∈ L, hasT l x.1 = false) : stayP L l = L := List.filter_eq_self.2 fun x hx => by rw [h x hx]; rfl
theorem stay_snoc (L : List Pr) (l : List ByteArray) (p : Pr) : stayP (L ++ [p]) l = if hasT l p.1 = true then stayP L l else stayP L l ++ [p] := by
  unfold stayP
  rw [List.filter_append]
  by_cases h : hasT l p.1 = true <;> simp [h]
/-- so many have been looked at, so many stay -/
structure DelAt (w0 : World) (g : Nat) (L : List Pr) (l : List ByteArray) (i j : Nat) (wr : World) : Prop where
  M : ∃ M : List Pr, M.length = L.length ∧ RowAt wr g M ∧ M.take i = stayP (L.take j) l ∧ M.drop j = L.drop j
  ij : i < j
  jn : j ≤ L.length
  b : Below w0.heap.size w0 wr
  lt : g < wr.heap.size
theorem DelAt.skip {w0 wr w' : World} {g i j : Nat} {L : List Pr} {l : List ByteArray} (h : DelAt w0 g L l i j wr) (hj : j < L.length) (hx : hasT l L[j].1 = true) (hb : Below wr.heap.size wr w') : DelAt w0 g L l i (j + 1) w' := by
  obtain ⟨M, h1, h2, h3, h4⟩ := h.M
  refine ⟨⟨M, h1, h2.below h.lt hb, ?_, ?_⟩, by have := h.ij; omega, by omega, h.b.trans (hb.mono h.b.size), Nat.lt_of_lt_of_le h.lt hb.size⟩
  · rw [h3, List.take_succ_eq_append_getElem hj, stay_snoc, if_pos hx]
  · have := congrArg (List.drop 1) h4
    rwa [List.drop_drop, List.drop_drop] at this
theorem DelAt.keep {w0 wr w' : World} {g i j : Nat} {L : List Pr} {l : List ByteArray} (h : DelAt w0 g L l i j wr) (hg : w0.heap.size ≤ g) (hj : j < L.length) (hx : hasT l L[j].1 = false) (hb : Below wr.heap.size wr w') :
    DelAt w0 g L l (i + 1) (j + 1) ((w'.setCell ⟨g, i * 2, none⟩ (.string L[j].1)).setCell ⟨g, i * 2 + 1, none⟩ (.string L[j].2)) := by
  obtain ⟨M, h1, h2, h3, h4⟩ := h.M
  have hij := h.ij
  refine ⟨⟨M.set i L[j], by rw [List.length_set, h1], (h2.below h.lt hb).set i (by omega) L[j], ?_, ?_⟩, by omega, by omega, ((h.b.trans (hb.mono h.b.size)).setCell (p := ⟨g, i * 2, none⟩) hg _).setCell (p := ⟨g, i * 2 + 1, none⟩) hg _, ?_⟩
  · rw [List.take_succ_eq_append_getElem (by rw [List.length_set]; omega), List.getElem_set_self, List.take_set_of_le (by omega), h3, List.take_succ_eq_append_getElem hj, stay_snoc, if_neg (by rw [hx]; simp)]
  · rw [List.drop_set_of_lt (by omega)]
    have := congrArg (List.drop 1) h4
    rwa [List.drop_drop, List.drop_drop] at this
  · have := Nat.lt_of_lt_of_le h.lt hb.size
    simpa [World.setCell] using this
theorem DelAt.at_ {w0 wr : World} {g i j : Nat} {L : List Pr} {l : List ByteArray} (h : DelAt w0 g L l i j wr) (hj : j < L.length) : wr.cell? ⟨g, j * 2, none⟩ = some (.string L[j].1) ∧ wr.cell? ⟨g, j * 2 + 1, none⟩ = some (.string L[j].2) ∧ (∃ u, wr.cell? ⟨g, i * 2, none⟩ = some (.string u)) ∧ (∃ u, wr.cell? ⟨g, i * 2 + 1, none⟩ = some (.string u)) ∧ (∀ o, wr.frozen? ⟨g, o, none⟩ = false) := by
  obtain ⟨M, h1, h2, h3, h4⟩ := h.M
  have hij := h.ij
  have e : M[j]'(by omega) = L[j] := by
    have := congrArg (fun z => z[0]?) h4
    simp only [List.getElem?_drop, Nat.add_zero] at this
    rw [List.getElem?_eq_getElem (by omega), List.getElem?_eq_getElem hj] at this
    exact Option.some.inj this
  obtain ⟨c0, c1⟩ := h2.c j (by omega)
  rw [e] at c0 c1
  exact ⟨c0, c1, ⟨_, (h2.c i (by omega)).1⟩, ⟨_, (h2.c i (by omega)).2⟩, h2.f⟩
set_option maxRecDepth 100000 in
set_option maxHeartbeats 4000000 in
theorem delP_any (b : Nat) (al : Option Addr) (cl : Nat) (l : List ByteArray) (g cap : Nat) (L : List Pr) (w0 w : World) (hrow : w.ownsRow w0.heap.size 87 2 (.slice (some ⟨g, 0, none⟩) L.length cap) L.length (rowP L)) (hb : Below w0.heap.size w0 w)
    (hc : w0.cell? ⟨b, 0, none⟩ = some (.slice al l.length cl)) (hl : TextsAt w0 al l) (hn : l.length ≤ 281474976710656) (hL : L.length ≤ 1000000) :
    Calls Tryz.prog 109 #[.slice (some ⟨g, 0, none⟩) L.length cap, .func (.func 111) #[] #[.pointer (some ⟨b, 0, none⟩)]] w fun e w' => e = .returned (.slice (some ⟨g, 0, none⟩) (stayP L l).length cap) ∧ PairsFrom w0.heap.size w' (some ⟨g, 0, none⟩) (stayP L l) ∧ Below w0.heap.size w0 w' := by
  have hlt := hrow.lt g rfl
  have hcap : L.length ≤ cap := by
    rcases hrow.2 with ⟨h, _⟩ | ⟨g', cap', cur, h, _, _, h1, _⟩
    · cases h
    · obtain ⟨_, rfl⟩ : g = g' ∧ cap = cap' := by simpa using h
      exact h1
  have hR := RowAt.of hrow
  have HP : Hid (PairsAt w (some ⟨g, 0, none⟩) L) := .inr ⟨g, 0, rfl, fun i hi => by rw [Nat.zero_add]; exact hR.c i hi⟩
  have eg : ∀ args w, (callFunc 111 args).run Tryz.prog w = .ok (.enter 111 args) w := enters_of Tryz.func111 (by kernel_rfl) rfl
  have HG : Hid (∀ W (x : Pr), Below w0.heap.size w0 W → Calls Tryz.prog 111 #[.agg #[.string x.1, .string x.2], .pointer (some ⟨b, 0, none⟩)] W fun e w' => e = .returned (.bool (hasT l x.1)) ∧ Below W.heap.size W w') := fun W x hW => goesP_any b al cl l x W ((hW.cell (p := ⟨b, 0, none⟩) (World.block_lt_of_cell? _ _ hc)).trans hc) (hl.below hW) hn
  have HX : Hid (Calls Tryz.prog 148 #[.slice (some ⟨g, 0, none⟩) L.length cap, .func (.func 111) #[] #[.pointer (some ⟨b, 0, none⟩)]] w fun e w' => e = .returned (.int .i64 (idxF (fun x => hasT l x.1) L)) ∧ Below w.heap.size w w') := idxP_any 111 #[.pointer (some ⟨b, 0, none⟩)] eg (fun x => hasT l x.1) _ cap L w HP.out (by omega) (fun W x hW => (HG.out W x (hb.trans (hW.mono hb.size))).mono fun e w' ⟨h1, h2⟩ => ⟨h1, hW.trans (h2.mono hW.size)⟩)
  have HR := hide hR
  have hlo := idxF_lo (fun x : Pr => hasT l x.1) L
  have hhi := idxF_hi (fun x : Pr => hasT l x.1) L
  clear hR hrow hc hl eg
  by_cases hneg : idxF (fun x : Pr => hasT l x.1) L < 0
  · have hst : stayP L l = L := stay_all (idxF_none hneg)
    have e1 : idxF (fun x : Pr => hasT l x.1) L = -1 := by omega
    rw [e1] at HX
    rw [hst]
    clear HG hst
    go_enter Tryz.func109, Tryz.ntmps109
    go_wp2_with fail
    refine HX.out.mono ?_
    rintro e w1 ⟨rfl, hb1⟩
    go_wp2_with fail
    go_ret
    exact ⟨rfl, PairsFrom.of (HP.out.below hb1) hlt.1 (fun i _ => ⟨(hb1.frozen (p := ⟨g, 0 + i * 2, none⟩) hlt.2).trans (HR.out.f _), (hb1.frozen (p := ⟨g, 0 + i * 2 + 1, none⟩) hlt.2).trans (HR.out.f _)⟩), hb.trans (hb1.mono hb.size)⟩
  · obtain ⟨i, hi⟩ : ∃ i : Nat, idxF (fun x : Pr => hasT l x.1) L = i := ⟨(idxF (fun x : Pr => hasT l x.1) L).toNat, by omega⟩
    obtain ⟨hil, hpi, hpj⟩ := idxF_at hi
    rw [hi] at HX
    have hst0 : stayP (L.take i) l = L.take i := stay_all fun x hx => by
      obtain ⟨j, hj, rfl⟩ := List.getElem_of_mem hx
      rw [List.getElem_take]
      exact hpj j (by simp at hj; omega)
    have HS1 : Hid (stayP (L.take (i + 1)) l = L.take i) := by
      rw [Hid, List.take_succ_eq_append_getElem hil, stay_snoc, if_pos hpi, hst0]
    clear hpi hpj hst0 hneg hlo hhi hi HP
    generalize hK : stayP L l = K
    have HK := hide hK
    clear hK
    go_enter Tryz.func109, Tryz.ntmps109
    go_wp2_with fail
    refine HX.out.mono ?_
    rintro e w1 ⟨rfl, hb1⟩
    have hB1 : Below w0.heap.size w0 w1 := hb.trans (hb1.mono hb.size)
    have HD1 : Hid (DelAt w0 g L l i (i + 1) w1) := ⟨⟨L, rfl, HR.out.below hlt.2 hb1, HS1.out.symm, rfl⟩, by omega, by omega, hB1, Nat.lt_of_lt_of_le hlt.2 hb1.size⟩
    have hi0 : ¬ ((i : Nat) : Int) = -1 := by omega
    clear HX HR HS1 hb1 hB1
    go_wp2_with fail
    go_loopw [5, 6] (fun iv jv wr => ∃ i j : Nat, iv = .int .i64 i ∧ jv = .int .i64 j ∧ DelAt w0 g L l i j wr) (fun _ jv _ => L.length - (intOf jv).toNat)
    case atStart => exact ⟨i, i + 1, rfl, by go_num, HD1.out⟩
    case round =>
      clear HD1 hil hi0
      obtain ⟨i, j, rfl, rfl, hD⟩ := hrel
      have HD := hide hD
      have hij := hD.ij
      have hjn := hD.jn
      have hzr := hD.b.size
      have hgz := hD.lt
      by_cases hj : j < L.length
      · have hj' : ((j : Nat) : Int) < ((L.length : Nat) : Int) := by omega
        have hi' : ((i : Nat) : Int) < ((L.length : Nat) : Int) := by omega
        obtain ⟨d0, d1, ⟨u0, e0⟩, ⟨u1, e1⟩, hf⟩ := hD.at_ hj
        have HSK : Hid (∀ w', hasT l L[j].1 = true → Below wr.heap.size wr w' → DelAt w0 g L l i (j + 1) w') := fun w' hx hb => HD.out.skip hj hx hb
        have HKP : Hid (∀ w', hasT l L[j].1 = false → Below wr.heap.size wr w' → DelAt w0 g L l (i + 1) (j + 1) ((w'.setCell ⟨g, i * 2, none⟩ (.string L[j].1)).setCell ⟨g, i * 2 + 1, none⟩ (.string L[j].2))) := fun w' hx hb => HD.out.keep hlt.1 hj hx hb
        have hDb := hD.b
        clear hD HD
        generalize L[j] = X at *
        obtain ⟨X1, X2⟩ := X
        go_wp2_with fail
        refine (HG.out _ (X1, X2) (hDb.alloc hDb.size _)).mono ?_
        rintro e w2 ⟨rfl, hb2⟩
        have hB2 : Below wr.heap.size wr w2 := ((Below.refl _ wr).alloc (Nat.le_refl _) _).trans (hb2.mono (by simp))
        have v0 : w2.cell? ⟨wr.heap.size, 0, none⟩ = some (.string X1) := (hb2.cell (p := ⟨wr.heap.size, 0, none⟩) (by simp)).trans (by simp [go_sem])
        have v1 : w2.cell? ⟨wr.heap.size, 1, none⟩ = some (.string X2) := (hb2.cell (p := ⟨wr.heap.size, 1, none⟩) (by simp)).trans (by simp [go_sem])
        have t0 : w2.cell? ⟨g, i * 2, none⟩ = some (.string u0) := (hB2.cell (p := ⟨g, i * 2, none⟩) hgz).trans e0
        have t1 : w2.cell? ⟨g, i * 2 + 1, none⟩ = some (.string u1) := (hB2.cell (p := ⟨g, i * 2 + 1, none⟩) hgz).trans e1
        have f0 : w2.frozen? ⟨g, i * 2, none⟩ = false := (hB2.frozen (p := ⟨g, i * 2, none⟩) hgz).trans (hf _)
        have f1 : w2.frozen? ⟨g, i * 2 + 1, none⟩ = false := (hB2.frozen (p := ⟨g, i * 2 + 1, none⟩) hgz).trans (hf _)
        clear hb2 d0 d1 e0 e1 hf hDb HG
        dsimp only
        cases hx : hasT l X1 with
        | true =>
          have HSK2 := hide (HSK.out w2 hx hB2)
          clear HSK HKP hx v0 v1 t0 t1 f0 f1
          go_wp2_with fail
          go_roundw
          case rel =>
            exact ⟨.int .i64 (i : Int), .int .i64 ((j : Int) + 1), _, _, _, _, _, _, _, _, _, _, _, _, _, _, _, _, _, _, _, _, _, ⟨i, j + 1, rfl, by simp, HSK2.out⟩, rfl⟩
          case measure => simp [intOf]; omega
        | false =>
          have HKP2 := hide (HKP.out w2 hx hB2)
          clear HSK HKP hx
          go_wp2_with fail
          go_roundw
          case rel =>
            exact ⟨.int .i64 ((i : Int) + 1), .int .i64 ((j : Int) + 1), _, _, _, _, _, _, _, _, _, _, _, _, _, _, _, _, _, _, _, _, _, ⟨i + 1, j + 1, by simp, by simp, HKP2.out⟩, rfl⟩
          case measure => simp [intOf]; omega
      · have hj' : ¬ ((j : Nat) : Int) < ((L.length : Nat) : Int) := by omega
        obtain rfl : j = L.length := by omega
        obtain ⟨M, m1, m2, m3, -⟩ := hD.M
        rw [List.take_length, HK.out] at m3
        have hki : K.length = i := by rw [← m3, List.length_take]; omega
        have hDb := hD.b
        have hcell : ∀ q, q < (L.length - i) * 2 → (wr.cell? ⟨g, i * 2 + q, none⟩).isSome = true := fun q hq => by
          obtain ⟨c0, c1⟩ := m2.c (i + q / 2) (by omega)
          by_cases hm : q % 2 = 0
          · rw [show i * 2 + q = (i + q / 2) * 2 by omega, c0]; rfl
          · rw [show i * 2 + q = (i + q / 2) * 2 + 1 by omega, c1]; rfl
        have hfro := m2.f
        have HR : Hid (∀ vs : List Value, vs.length = (L.length - i) * 2 → PairsFrom w0.heap.size (wr.setCells g (i * 2) vs) (some ⟨g, 0, none⟩) K ∧ Below w0.heap.size w0 (wr.setCells g (i * 2) vs)) := fun vs hvs => by
          refine ⟨PairsFrom.of (.inr ⟨g, 0, rfl, fun q hq => ?_⟩) hlt.1 (fun q _ => ⟨by rw [World.frozen?_setCells]; exact hfro _, by rw [World.frozen?_setCells]; exact hfro _⟩), ?_⟩
          · obtain ⟨c0, c1⟩ := m2.c q (by omega)
            have e : M[q]'(by omega) = K[q] := by
              have := congrArg (fun z => z[q]?) m3
              simp only [List.getElem?_take] at this
              rw [if_pos (by omega), List.getElem?_eq_getElem (by omega), List.getElem?_eq_getElem hq] at this
              exact Option.some.inj this
            rw [e] at c0 c1
            rw [Nat.zero_add]
            exact ⟨by rw [World.cell?_setCells_out g vs _ _ _ (fun _ _ => .inl (by simp only; omega))]; exact c0, by rw [World.cell?_setCells_out g vs _ _ _ (fun _ _ => .inl (by simp only; omega))]; exact c1⟩
          · exact belowSetCells hlt.1 _ _ _ hDb
        have hi' : ((i : Nat) : Int) ≤ ((L.length : Nat) : Int) := by omega
        have hic : ((i : Nat) : Int) ≤ ((cap : Nat) : Int) := by omega
        clear HG HK m1 m2 m3 hDb hD HD
        obtain ⟨vs, hvs, hrun⟩ := run_clear_pairs wr g (i * 2) (L.length - i) (cap - i) (by omega) hcell hfro
        obtain ⟨h8, h9⟩ := HR.out vs hvs
        have H8 := hide h8
        clear HR h8 hcell hfro hvs
        generalize wr.setCells g (i * 2) vs = W9 at *
        go_wp2_with fail
        go_ret
        exact ⟨rfl, H8.out, h9⟩
end Go.Proofs.YtcidoodaiimhfaaGreat

/- WALK of hashes: Drop. -/
namespace Go.Proofs.YtcidoodaiimhfaaGreat
open Go.RowKit

set_option maxRecDepth 100000 in
theorem delNoneP_any (a : Option Addr) (cap : Nat) (fv : Value) (w : World) :
    Calls Tryz.prog 109 #[.slice a 0 cap, fv] w fun e w' => e = .returned (.slice a 0 cap) ∧ w' = w := by
  have HI := hide (idxP_none a cap fv w)
  go_enter Tryz.func109, Tryz.ntmps109
  go_wp2_with fail
  refine HI.out.mono ?_
  rintro e w1 ⟨rfl, rfl⟩
  go_wp2_with fail
  go_ret
  exact ⟨rfl, rfl⟩
/-- what Drop answers -/
def dropI (x : Itm) (l : List ByteArray) : Itm := if asI x 4 = 0 then kindP (stayP x.p l) else Itm.none
def dropN (x : Itm) (l : List ByteArray) : Int := if asI x 4 = 0 then ((x.p.length : Nat) : Int) - (((stayP x.p l).length : Nat) : Int) else 0
set_option maxRecDepth 100000 in
set_option maxHeartbeats 4000000 in
theorem hashDrop_own (v : Value) (x : Itm) (al : Option Addr) (cl : Nat) (l : List ByteArray) (w : World) (h : ItemIs w v x) (hl : TextsAt w al l) (hll : l.length ≤ 281474976710656) :
    Calls Tryz.prog 43 #[v, .slice al l.length cl] w fun e w' => ∃ u, e = .returned (.tuple #[u, .int .i64 (dropN x l), .int .i64 (asI x 4)]) ∧ ItemOwn w.heap.size w' u (dropI x l) ∧ Below w.heap.size w w' := by
  have HC : Hid (∀ W, Below w.heap.size w W → Calls Tryz.prog 85 #[v, .int .i64 4] W fun e w' => e = .returned (.int .i64 (asI x 4)) ∧ Below W.heap.size W w') := fun W hW => common_any v x 4 W (h.below hW)
  obtain ⟨⟨a1, c1, a2, c2, a3, c3, rfl, -, hx2, -⟩, tz, -, pz, -, -, -, -⟩ := h
  by_cases h0 : asI x 4 = 0
  · obtain ⟨-, hx24, -⟩ := asI_hash h0
    rw [dropI, if_pos h0, dropN, if_pos h0, h0]
    rw [h0] at HC
    have HX := hide hx2
    have HL := hide hl
    have HZ : Hid (∀ t ∈ stayP x.p l, t.1.size ≤ maxLen ∧ t.2.size ≤ maxLen) := fun t ht => pz t (List.mem_filter.1 ht).1
    have HCL : Hid (∀ W, Below w.heap.size w W → Calls Tryz.prog 110 #[.slice a2 x.p.length c2] W fun e w' => ∃ a' cap, e = .returned (.slice a' x.p.length cap) ∧ Below W.heap.size W w' ∧ ∀ b, W.cell? ⟨b, 0, none⟩ = some (.slice al l.length cl) → Calls Tryz.prog 109 #[.slice a' x.p.length cap, .func (.func 111) #[] #[.pointer (some ⟨b, 0, none⟩)]] w' fun e w'' => e = .returned (.slice a' (stayP x.p l).length cap) ∧ PairsFrom W.heap.size w'' a' (stayP x.p l) ∧ Below W.heap.size W w'') := fun W hW => (cloneP_any a2 c2 x.p W (HX.out.below hW) (by omega)).mono fun e w' ⟨u, h1, h2, h3⟩ => by
      rcases h2.2 with ⟨rfl, h0⟩ | ⟨g, cap, cur, rfl, hrest⟩
      · have e0 : x.p = [] := List.eq_nil_of_length_eq_zero h0
        refine ⟨none, 0, by rw [h1, h0], h3, fun b hc => ?_⟩
        rw [e0]
        exact (delNoneP_any none 0 _ w').mono fun e w'' ⟨k1, k2⟩ => ⟨k1, PairsFrom.none _ _ _, k2 ▸ h3⟩
      · exact ⟨some ⟨g, 0, none⟩, cap, h1, h3, fun b hc => delP_any b al cl l g cap x.p W w' h2 h3 hc (HL.out.below hW) hll (by omega)⟩
    have hkl := stayP_len x.p l
    clear h0 hx2 hl pz HX HL
    generalize stayP x.p l = K at *
    generalize x.l.length = n1 at *
    generalize x.t = t at *
    generalize x.k = k at *
    generalize x.p.length = n2 at *
    generalize x.s.length = n3 at *
    go_enter Tryz.func43, Tryz.ntmps43
    go_wp2_with fail
    refine (HC.out _ ((((Below.refl _ w).alloc (Nat.le_refl _) _).alloc (by simp) _).alloc (by simp; omega) _)).mono ?_
    rintro e w1 ⟨rfl, hb1⟩
    obtain ⟨hc, hf⟩ := bcell hb1
    have hz : w.heap.size + 2 < w1.heap.size := by have := hb1.size; simp at this; omega
    have hB1 : Below w.heap.size w w1 := ((((Below.refl _ w).alloc (Nat.le_refl _) _).alloc (by simp) _).alloc (by simp; omega) _).trans (hb1.mono (by simp; omega))
    have y0 : w.heap.size < w1.heap.size := by omega
    have y1 : w.heap.size + 1 < w1.heap.size := by omega
    go_wp2_with fail
    refine (HCL.out _ hB1).mono ?_
    rintro e w2 ⟨a', cap, rfl, hb2, HD⟩
    have HDD := hide (HD (w.heap.size + 1) ((hc _ _ (by simp)).trans (by simp [go_sem])))
    clear HD HCL HC
    have z2 := hb2.size
    go_wp2_with fail
    refine HDD.out.mono ?_
    rintro e w3 ⟨rfl, hT, hb3⟩
    have HT := hide hT
    clear hT HDD hb2
    have z3 := hb3.size
    have B3 : Below w.heap.size w w3 := hB1.trans (hb3.mono hB1.size)
    obtain ⟨fk, fa, fn, fc, ho, hi⟩ := hashOf_item (p := fun W' => ∀ g o u, w1.heap.size ≤ g → w3.cell? ⟨g, o, none⟩ = some u → w3.frozen? ⟨g, o, none⟩ = false → W'.cell? ⟨g, o, none⟩ = some u) (cp := cap) HT.out HZ.out (by omega)
    have HO := hide ho
    have HI := hide hi
    clear ho hi HT HZ
    have HBX : Hid (∀ W, Below w1.heap.size w1 W → (W.cell? ⟨w.heap.size + 2, 0, none⟩ = some (.int .i64 0) ∧ W.cell? ⟨w.heap.size + 2, 1, none⟩ = some (.string ⟨#[]⟩) ∧ W.cell? ⟨w.heap.size + 2, 2, none⟩ = some (.slice none 0 0) ∧ W.cell? ⟨w.heap.size + 2, 3, none⟩ = some (.slice none 0 0) ∧ W.cell? ⟨w.heap.size + 2, 4, none⟩ = some (.slice none 0 0)) ∧ (∀ j, W.frozen? ⟨w.heap.size + 2, j, none⟩ = false) ∧ W.cell? ⟨w.heap.size, 3, none⟩ = some (.slice a2 n2 c2)) := fun W hW =>
      ⟨⟨(hW.cell (p := ⟨w.heap.size + 2, 0, none⟩) hz).trans ((hc _ _ (by simp)).trans (by simp [go_sem])), (hW.cell (p := ⟨w.heap.size + 2, 1, none⟩) hz).trans ((hc _ _ (by simp)).trans (by simp [go_sem])), (hW.cell (p := ⟨w.heap.size + 2, 2, none⟩) hz).trans ((hc _ _ (by simp)).trans (by simp [go_sem])), (hW.cell (p := ⟨w.heap.size + 2, 3, none⟩) hz).trans ((hc _ _ (by simp)).trans (by simp [go_sem])), (hW.cell (p := ⟨w.heap.size + 2, 4, none⟩) hz).trans ((hc _ _ (by simp)).trans (by simp [go_sem]))⟩, fun j => (hW.frozen (p := ⟨w.heap.size + 2, j, none⟩) hz).trans ((hf _ _ (by simp)).trans (by simp [go_sem])), (hW.cell (p := ⟨w.heap.size, 3, none⟩) y0).trans ((hc _ _ (by simp; omega)).trans (by simp [go_sem]))⟩
    obtain ⟨-, -, x2⟩ := HBX.out w3 hb3
    have hbd : Below w1.heap.size w1 w3.drew := hb3.drew
    have nn1 : w3.heap.size ≠ w.heap.size + 2 := by omega
    have nn2 : w.heap.size + 2 ≠ w3.heap.size := by omega
    have nn3 : w.heap.size ≠ w.heap.size + 1 + 1 := by omega
    have nn4 : w.heap.size + 1 + 1 ≠ w.heap.size := by omega
    have nn5 : ¬ w.heap.size = w.heap.size + 1 + 1 := by omega
    have hwr := wrap_small (((n2 : Nat) : Int) - ((K.length : Nat) : Int)) (by omega) (by omega)
    have hzl := hb3.size
    have hz1 := hB1.size
    clear hc hf hb1
    go_wp2_with fail
    go_region_held3 (fun w' => w'.cell? ⟨w.heap.size, 3, none⟩ = some (.slice a2 n2 c2)) (go_keep)
      ((go_at_call 108; refine (HO.out _).mono ?_; rintro e w9 ⟨rfl, hb9⟩; have hb9' : Below w1.heap.size w1 w9 := hbd.trans (hb9.mono hzl); obtain ⟨⟨b0, b1, b2, b3, b4⟩, fz, x3⟩ := HBX.out w9 hb9'; have fz0 := fz 0; have fz1 := fz 1; have fz2 := fz 2; have fz3 := fz 3; have fz4 := fz 4))
    all_goals
      go_wp2_with fail
      refine bodyPost_ret (v := .tuple #[.agg #[.int .i64 fk, .string ⟨#[]⟩, .slice none 0 0, .slice fa fn fc, .slice none 0 0], .int .i64 (((n2 : Nat) : Int) - ((K.length : Nat) : Int)), .int .i64 0]) (by simp [results, Tryz.results43, go_sem, b0, b1, b2, b3, b4]) rfl ⟨_, rfl, ?_, ?_⟩
      · exact fun w'' hw => HI.out w'' (fun g' o' u' hg hu hf => hw g' o' u' (by omega) ((five_apart w9 (w.heap.size + 2) _ _ _ _ _ g' o' (by omega)).trans ((hb9.cell (p := ⟨g', o', none⟩) (World.block_lt_of_cell? w3 _ hu)).trans hu)) (by simp only [World.frozen?_setCell]; exact (hb9.frozen (p := ⟨g', o', none⟩) (World.block_lt_of_cell? w3 _ hu)).trans hf))
      · have hb9'' := hB1.trans (hb9'.mono hz1)
        go_grown
  · rw [dropI, dropN, if_neg h0, if_neg h0]
    have h0' : (asI x 4 == 0) = false := by rw [beq_eq_false_iff_ne]; exact h0
    clear hx2 hl
    generalize asI x 4 = E at *
    generalize x.l = L at *
    generalize x.t = t at *
    generalize x.k = k at *
    generalize x.p.length = n2 at *
    generalize x.s.length = n3 at *
    go_enter Tryz.func43, Tryz.ntmps43
    go_wp2_with fail
    refine (HC.out _ ((((Below.refl _ w).alloc (Nat.le_refl _) _).alloc (by simp) _).alloc (by simp; omega) _)).mono ?_
    rintro e w1 ⟨rfl, hb1⟩
    obtain ⟨hc, hf⟩ := bcell hb1
    have hz : w.heap.size + 2 < w1.heap.size := by have := hb1.size; simp at this; omega
    have hB1 : Below w.heap.size w w1 := ((((Below.refl _ w).alloc (Nat.le_refl _) _).alloc (by simp) _).alloc (by simp; omega) _).trans (hb1.mono (by simp; omega))
    go_wp2_with fail
    refine bodyPost_ret (v := .tuple #[.agg #[.int .i64 0, .string ⟨#[]⟩, .slice none 0 0, .slice none 0 0, .slice none 0 0], .int .i64 0, .int .i64 E]) (by simp [results, Tryz.results43, go_sem, hc]) rfl ⟨_, rfl, fun w'' _ => zero_is w'', ?_⟩
    go_grown
theorem hashDrop_any (v : Value) (x : Itm) (al : Option Addr) (cl : Nat) (l : List ByteArray) (w : World) (h : ItemIs w v x) (hl : TextsAt w al l) (hll : l.length ≤ 281474976710656) :
    Calls Tryz.prog 43 #[v, .slice al l.length cl] w fun e w' => ∃ u, e = .returned (.tuple #[u, .int .i64 (dropN x l), .int .i64 (asI x 4)]) ∧ ItemFrom w.heap.size w' u (dropI x l) ∧ Below w.heap.size w w' :=
  (hashDrop_own v x al cl l w h hl hll).mono fun _ _ ⟨u, he, hi, hb⟩ => ⟨u, he, hi.from, hb⟩
end Go.Proofs.YtcidoodaiimhfaaGreat

/- WALK of hashBegun. -/
namespace Go.Proofs.YtcidoodaiimhfaaGreat
open Go.RowKit

def pB1 : Pr := (⟨#[98]⟩, ⟨#[49]⟩)
def pA2 : Pr := (⟨#[97]⟩, ⟨#[50]⟩)
def pB3 : Pr := (⟨#[98]⟩, ⟨#[51]⟩)
def hbX : Itm := ⟨4, ⟨#[]⟩, [], [pA2, pB3], []⟩
def hbY : Itm := ⟨4, ⟨#[]⟩, [], [pA2], []⟩
theorem hb_put : putE Itm.none [pB1, pA2, pB3] = 0 ∧ putN Itm.none [pB1, pA2, pB3] = 2 ∧ putI Itm.none [pB1, pA2, pB3] = hbX := ⟨by kernel_rfl, by kernel_rfl, by kernel_rfl⟩
theorem hb_get : getE hbX ⟨#[98]⟩ = 0 ∧ getS hbX ⟨#[98]⟩ = ⟨#[51]⟩ := ⟨by kernel_rfl, by kernel_rfl⟩
theorem hb_drop : asI hbX 4 = 0 ∧ dropN hbX [⟨#[98]⟩, ⟨#[122]⟩] = 1 ∧ dropI hbX [⟨#[98]⟩, ⟨#[122]⟩] = hbY := ⟨by kernel_rfl, by kernel_rfl, by kernel_rfl⟩
theorem hb_get2 : getE hbY ⟨#[98]⟩ = 5 ∧ getS hbY ⟨#[98]⟩ = ⟨#[]⟩ := ⟨by kernel_rfl, by kernel_rfl⟩
theorem ItemIs.shapeH {w : World} {v : Value} {x : Itm} (h : ItemIs w v x) : ∃ k t a1 n1 c1 a2 n2 c2 a3 n3 c3, v = .agg #[.int .i64 k, .string t, .slice a1 n1 c1, .slice a2 n2 c2, .slice a3 n3 c3] := by
  obtain ⟨⟨a1, c1, a2, c2, a3, c3, e, -, -, -⟩, -, -, -, -, -, -, -⟩ := h
  exact ⟨_, _, _, _, _, _, _, _, _, _, _, e⟩
theorem ItemIs.lenH {w : World} {x : Itm} {k : Int} {t : ByteArray} {a1 a2 a3 : Option Addr} {n1 n2 n3 c1 c2 c3 : Nat} (h : ItemIs w (.agg #[.int .i64 k, .string t, .slice a1 n1 c1, .slice a2 n2 c2, .slice a3 n3 c3]) x) : n2 = x.p.length := by
  obtain ⟨⟨b1, q1, b2, q2, b3, q3, e, -, -, -⟩, -⟩ := h
  injection e with e
  have e' := congrArg (fun z => z[3]?) e
  simp at e'
  exact e'.2.1
theorem short_pr : ∀ t ∈ [pB1, pA2, pB3], t.1.size ≤ maxLen ∧ t.2.size ≤ maxLen := by
  have h1 : (1 : Nat) ≤ maxLen := by unfold maxLen; omega
  intro t ht
  simp at ht
  rcases ht with rfl | rfl | rfl <;> exact ⟨h1, h1⟩
theorem two_textsH (w : World) (t1 t2 : ByteArray) (T : TypeId) (g : Nat) (hg : g = w.heap.size) : TextsAt (w.alloc (.cells #[.string t1, .string t2] T)) (some ⟨g, 0, none⟩) [t1, t2] := by
  subst hg
  refine .inr ⟨w.heap.size, 0, rfl, fun i hi => ?_⟩
  match i, hi with
  | 0, _ => simp [go_sem]
  | 1, _ => simp [go_sem]
theorem three_pairs (w : World) (p q r : Pr) (g : Nat) (hg : g = w.heap.size) : PairsAt (w.alloc (.cells #[.string p.1, .string p.2, .string q.1, .string q.2, .string r.1, .string r.2] 87)) (some ⟨g, 0, none⟩) [p, q, r] := by
  subst hg
  refine .inr ⟨w.heap.size, 0, rfl, fun i hi => ?_⟩
  match i, hi with
  | 0, _ => exact ⟨by simp [go_sem], by simp [go_sem]⟩
  | 1, _ => exact ⟨by simp [go_sem], by simp [go_sem]⟩
  | 2, _ => exact ⟨by simp [go_sem], by simp [go_sem]⟩
set_option maxRecDepth 100000 in
set_option maxHeartbeats 8000000 in
theorem hashBegun_any (w : World) : Calls Tryz.prog 29 #[] w fun e w' => e = .returned (.bool true) ∧ Below w.heap.size w w' := by
  have HA : Hid (∀ W ad, PairsAt W (some ad) [pB1, pA2, pB3] → Calls Tryz.prog 42 #[.agg #[.int .i64 0, .string ⟨#[]⟩, .slice none 0 0, .slice none 0 0, .slice none 0 0], .slice (some ad) 3 3] W fun e w' => ∃ u, (e = .returned (.tuple #[u, .int .i64 2, .int .i64 0]) ∧ ItemIs w' u hbX) ∧ Below W.heap.size W w') := fun W ad h => by
    have hh := hashPut_any _ Itm.none (some ad) 3 [pB1, pA2, pB3] W (zero_is W) h short_pr (by simp)
    rw [hb_put.1, hb_put.2.1, hb_put.2.2] at hh
    exact hh.mono fun e w' ⟨u, h1, h2, h3⟩ => ⟨u, ⟨h1, h2.is⟩, h3⟩
  have HD : Hid (∀ v W ad, ItemIs W v hbX → TextsAt W (some ad) [⟨#[98]⟩, ⟨#[122]⟩] → Calls Tryz.prog 43 #[v, .slice (some ad) 2 2] W fun e w' => ∃ u, (e = .returned (.tuple #[u, .int .i64 1, .int .i64 0]) ∧ ItemIs w' u hbY) ∧ Below W.heap.size W w') := fun v W ad hv h => by
    have hh := hashDrop_any v hbX (some ad) 2 [⟨#[98]⟩, ⟨#[122]⟩] W hv h (by simp)
    rw [hb_drop.1, hb_drop.2.1, hb_drop.2.2] at hh
    exact hh.mono fun e w' ⟨u, h1, h2, h3⟩ => ⟨u, ⟨h1, h2.is⟩, h3⟩
  have HG : Hid (∀ v W, ItemIs W v hbX → Calls Tryz.prog 78 #[v, .string ⟨#[98]⟩] W fun e w' => e = .returned (.tuple #[.string ⟨#[51]⟩, .int .i64 0]) ∧ Below W.heap.size W w') := fun v W hv => by
    have hh := hashGet_any v hbX ⟨#[98]⟩ W hv
    rw [hb_get.1, hb_get.2] at hh
    exact hh
  have HG2 : Hid (∀ v W, ItemIs W v hbY → Calls Tryz.prog 78 #[v, .string ⟨#[98]⟩] W fun e w' => e = .returned (.tuple #[.string ⟨#[]⟩, .int .i64 5]) ∧ Below W.heap.size W w') := fun v W hv => by
    have hh := hashGet_any v hbY ⟨#[98]⟩ W hv
    rw [hb_get2.1, hb_get2.2] at hh
    exact hh
  go_enter Tryz.func29, Tryz.ntmps29
  go_wp2_with fail
  have C_0 : Below w.heap.size w (w.alloc (.cells #[.string ⟨#[98]⟩, .string ⟨#[49]⟩, .string ⟨#[97]⟩, .string ⟨#[50]⟩, .string ⟨#[98]⟩, .string ⟨#[51]⟩] 87)) := (Below.refl _ w).alloc (Nat.le_refl _) _
  refine (HA.out _ _ (by exact three_pairs _ _ _ _ _ (by simp))).mono ?_
  rintro e w1 ⟨uX, ⟨rfl, iX⟩, hb1⟩
  have C_1 : Below w.heap.size w w1 := C_0.trans (hb1.mono C_0.size)
  clear C_0
  clear hb1
  obtain ⟨kX, tX, aX1, nX1, cX1, aX2, nX2, cX2, aX3, nX3, cX3, rfl⟩ := iX.shapeH
  have IX_3 := hide (iX)
  clear iX
  go_wp2_with fail
  have IX_4 := hide (IX_3.out.below ((Below.refl _ w1).alloc (Nat.le_refl _) (.cells #[.int .i64 kX, .string tX, .slice aX1 nX1 cX1, .slice aX2 nX2 cX2, .slice aX3 nX3 cX3] 28)))
  clear IX_3
  have C_5 : Below w.heap.size w (w1.alloc (.cells #[.int .i64 kX, .string tX, .slice aX1 nX1 cX1, .slice aX2 nX2 cX2, .slice aX3 nX3 cX3] 28)) := C_1.alloc C_1.size (.cells #[.int .i64 kX, .string tX, .slice aX1 nX1 cX1, .slice aX2 nX2 cX2, .slice aX3 nX3 cX3] 28)
  clear C_1
  have X_6 := hide (BoxAt.new w1 (.int .i64 kX) (.string tX) (.slice aX1 nX1 cX1) (.slice aX2 nX2 cX2) (.slice aX3 nX3 cX3) 28)
  refine (HG.out _ _ IX_4.out).mono ?_
  rintro e w2 ⟨rfl, hb2⟩
  have C_7 : Below w.heap.size w w2 := C_5.trans (hb2.mono C_5.size)
  clear C_5
  have IX_8 := hide (IX_4.out.below hb2)
  have X_8 := hide (X_6.out.below hb2)
  clear IX_4 X_6
  clear hb2
  obtain ⟨xc0, xc1, xc2, xc3, xc4, xlt⟩ := X_8.out
  go_wp2_with fail
  clear xc0 xc1 xc2 xc3 xc4 xlt
  have IX_9 := hide (IX_8.out.below ((Below.refl _ w2).alloc (Nat.le_refl _) (.cells #[.string ⟨#[98]⟩, .string ⟨#[122]⟩] 9)))
  clear IX_8
  have X_10 := hide (X_8.out.below ((Below.refl _ w2).alloc (Nat.le_refl _) (.cells #[.string ⟨#[98]⟩, .string ⟨#[122]⟩] 9)))
  clear X_8
  have C_11 : Below w.heap.size w (w2.alloc (.cells #[.string ⟨#[98]⟩, .string ⟨#[122]⟩] 9)) := C_7.alloc C_7.size (.cells #[.string ⟨#[98]⟩, .string ⟨#[122]⟩] 9)
  clear C_7
  refine (HD.out _ _ _ IX_9.out (by exact two_textsH _ _ _ _ _ (by simp))).mono ?_
  rintro e w3 ⟨uY, ⟨rfl, iY⟩, hb3⟩
  have C_12 : Below w.heap.size w w3 := C_11.trans (hb3.mono C_11.size)
  clear C_11
  have IX_13 := hide (IX_9.out.below hb3)
  have X_13 := hide (X_10.out.below hb3)
  clear IX_9 X_10
  clear hb3
  obtain ⟨kY, tY, aY1, nY1, cY1, aY2, nY2, cY2, aY3, nY3, cY3, rfl⟩ := iY.shapeH
  obtain rfl : nY2 = 1 := iY.lenH
  have IY_14 := hide (iY)
  clear iY
  go_wp2_with fail
  have IX_15 := hide (IX_13.out.below ((Below.refl _ w3).alloc (Nat.le_refl _) (.cells #[.int .i64 kY, .string tY, .slice aY1 nY1 cY1, .slice aY2 1 cY2, .slice aY3 nY3 cY3] 28)))
  clear IX_13
  have X_16 := hide (X_13.out.below ((Below.refl _ w3).alloc (Nat.le_refl _) (.cells #[.int .i64 kY, .string tY, .slice aY1 nY1 cY1, .slice aY2 1 cY2, .slice aY3 nY3 cY3] 28)))
  clear X_13
  have IY_17 := hide (IY_14.out.below ((Below.refl _ w3).alloc (Nat.le_refl _) (.cells #[.int .i64 kY, .string tY, .slice aY1 nY1 cY1, .slice aY2 1 cY2, .slice aY3 nY3 cY3] 28)))
  clear IY_14
  have C_18 : Below w.heap.size w (w3.alloc (.cells #[.int .i64 kY, .string tY, .slice aY1 nY1 cY1, .slice aY2 1 cY2, .slice aY3 nY3 cY3] 28)) := C_12.alloc C_12.size (.cells #[.int .i64 kY, .string tY, .slice aY1 nY1 cY1, .slice aY2 1 cY2, .slice aY3 nY3 cY3] 28)
  clear C_12
  have Y_19 := hide (BoxAt.new w3 (.int .i64 kY) (.string tY) (.slice aY1 nY1 cY1) (.slice aY2 1 cY2) (.slice aY3 nY3 cY3) 28)
  refine (HG2.out _ _ IY_17.out).mono ?_
  rintro e w4 ⟨rfl, hb4⟩
  have C_20 : Below w.heap.size w w4 := C_18.trans (hb4.mono C_18.size)
  clear C_18
  have IX_21 := hide (IX_15.out.below hb4)
  have X_21 := hide (X_16.out.below hb4)
  have IY_21 := hide (IY_17.out.below hb4)
  have Y_21 := hide (Y_19.out.below hb4)
  clear IX_15 X_16 IY_17 Y_19
  clear hb4
  obtain ⟨yc0, yc1, yc2, yc3, yc4, ylt⟩ := Y_21.out
  go_wp2_with fail
  go_ret
  exact ⟨rfl, C_20⟩
end Go.Proofs.YtcidoodaiimhfaaGreat

/- (patterns, items) WALKS of the small functions of package scan. -/
namespace Go.Proofs.YtcidoodaiimhfaaGreat
open Go.RowKit

set_option maxHeartbeats 400000 in
theorem done_any (b : Nat) (s : ByteArray) (k : Nat) (w : World) (h : At b s k w) :
    Calls Tryz.prog 184 #[.pointer (some ⟨b, 0, none⟩)] w fun e w' => e = .returned (.bool ((k : Int) == s.size)) ∧ ∃ n, w' = w.drewN n := by
  obtain ⟨h0, h1, h2, h3, h4⟩ := h
  go_enter Tryz.func184, Tryz.ntmps184
  go_wp2
  go_quiet (fail)
  go_wp2
  go_ret
  exact ⟨rfl, _, rfl⟩

set_option maxHeartbeats 400000 in
theorem giveUp_any (n : Int) (w : World) :
    Calls Tryz.prog 183 #[.int .i64 n] w fun e w' => e = .panicked [{ v := .iface 194 (.agg #[.int .i64 (n)]), recovered := false }] ∧ w' = w := by
  go_enter Tryz.func183, Tryz.ntmps183
  go_wp2
  exact ⟨rfl, rfl, rfl⟩

set_option maxHeartbeats 400000 in
theorem next_at (b : Nat) (s : ByteArray) (k : Nat) (w : World) (h : At b s k w) (hk : k < s.size) :
    Calls Tryz.prog 173 #[.pointer (some ⟨b, 0, none⟩)] w fun e w' => e = .returned (.int .u8 s[k].toNat) ∧ At b s (k + 1) w' ∧ Kept (one b) w w' := by
  have hA := h
  obtain ⟨h0, h1, h2, h3, h4⟩ := h
  have h5 : ((k : Int) == s.size) = false := by simp; omega
  unfold maxLen at h4
  go_enter Tryz.func173, Tryz.ntmps173
  go_wp2_with (go_at_call 184; refine (done_any _ _ _ _ hA).mono ?_; rintro e w' ⟨rfl, n, rfl⟩)
  go_quiet (fail)
  go_wp2
  go_ret
  refine ⟨rfl, ?_, ?_⟩
  · have := (hA.drewN n).set (j := k + 1) (by omega)
    simpa using this.drewN nq
  · exact (((Kept.refl _ _).drewN n).set1 _ _).drewN nq

theorem next_ok (b : Nat) (s : ByteArray) (c : UInt8) (r : List UInt8) (w : World) (h : AtL b s (c :: r) w) :
    Calls Tryz.prog 173 #[.pointer (some ⟨b, 0, none⟩)] w fun e w' => e = .returned (.int .u8 c.toNat) ∧ AtL b s r w' ∧ Kept (one b) w w' := by
  have hl := h.len
  simp only [List.length_cons] at hl
  have hk : s.size - (r.length + 1) < s.size := by omega
  refine (next_at b s _ w h.1 hk).mono ?_
  rintro e w' ⟨rfl, ha, hkp⟩
  refine ⟨?_, ⟨?_, suffix_cons h.2⟩, hkp⟩
  · have := get_of_suffix h.2 hk
    simp only [List.length_cons]
    rw [this]
  · have e : s.size - (c :: r).length + 1 = s.size - r.length := by simp only [List.length_cons]; omega
    rw [e] at ha
    exact ha

set_option maxHeartbeats 400000 in
theorem next_short (b : Nat) (s : ByteArray) (w : World) (h : AtL b s [] w) :
    Calls Tryz.prog 173 #[.pointer (some ⟨b, 0, none⟩)] w fun e w' => e = .panicked [{ v := .iface 194 (.agg #[.int .i64 (8)]), recovered := false }] ∧ Kept (one b) w w' := by
  have hA : At b s s.size w := h.1
  obtain ⟨h0, h1, h2, h3, h4⟩ := hA
  have h5 : ((s.size : Int) == s.size) = true := by simp
  unfold maxLen at h4
  go_enter Tryz.func173, Tryz.ntmps173
  go_wp2_with (first | (go_at_call 184; refine (done_any _ _ _ _ h.1).mono ?_; rintro e w' ⟨rfl, n, rfl⟩) | (go_at_call 183; refine (giveUp_any _ _).mono ?_; rintro e w' ⟨rfl, rfl⟩))
  exact ⟨rfl, rfl, (Kept.refl _ _).drewN n⟩

theorem done_nil (b : Nat) (s : ByteArray) (w : World) (h : AtL b s [] w) :
    Calls Tryz.prog 184 #[.pointer (some ⟨b, 0, none⟩)] w fun e w' => e = .returned (.bool true) ∧ ∃ n, w' = w.drewN n := by
  refine (done_any b s _ w h.1).mono ?_
  rintro e w' ⟨rfl, n, rfl⟩
  exact ⟨by simp, n, rfl⟩
theorem done_cons (b : Nat) (s : ByteArray) (c : UInt8) (l : List UInt8) (w : World) (h : AtL b s (c :: l) w) :
    Calls Tryz.prog 184 #[.pointer (some ⟨b, 0, none⟩)] w fun e w' => e = .returned (.bool false) ∧ ∃ n, w' = w.drewN n := by
  have hl := h.len
  refine (done_any b s _ w h.1).mono ?_
  rintro e w' ⟨rfl, n, rfl⟩
  have hb : (((s.size - (c :: l).length : Nat) : Int) == s.size) = false := by
    simp only [List.length_cons] at hl ⊢
    simp
    omega
  exact ⟨by rw [hb], n, rfl⟩
end Go.Proofs.YtcidoodaiimhfaaGreat

/- Library contracts, laid at this program. -/
namespace Go.Proofs
open Go.Shelf
def Tryz.laysM316_ren : Go.Shelf.Ren := ⟨fun | 316 => 243 | n => n, fun | 9 => 9 | 3 => 3 | 4 => 4 | 37 => 133 | 0 => 0 | 127 => 191 | 5 => 5 | n => n, fun | n => n⟩
theorem Tryz.laysM316 : Go.Proofs.LaysM.n316 Tryz.prog Tryz.laysM316_ren := {
  mixed := by kernel_rfl
  f316 := Tryz.func243.trans (congrArg some (by kernel_rfl))
  t0 := Tryz.underlying0
  a0 := Tryz.isAgg0
  z0 := Tryz.sizeOf0
  v0 := Tryz.zeroValue0
  t3 := Tryz.underlying3
  a3 := Tryz.isAgg3
  z3 := Tryz.sizeOf3
  v3 := Tryz.zeroValue3
  t4 := Tryz.underlying4
  a4 := Tryz.isAgg4
  z4 := Tryz.sizeOf4
  v4 := Tryz.zeroValue4
  t9 := Tryz.underlying9
  a9 := Tryz.isAgg9
  z9 := Tryz.sizeOf9
  v9 := Tryz.zeroValue9
  t37 := Tryz.underlying133
  a37 := Tryz.isAgg133
  z37 := Tryz.sizeOf133
  v37 := Tryz.zeroValue133
  t127 := Tryz.underlying191
  a127 := Tryz.isAgg191
  z127 := Tryz.sizeOf191
  v127 := Tryz.zeroValue191
  t5 := Tryz.underlying5
  a5 := Tryz.isAgg5
  z5 := Tryz.sizeOf5
  v5 := Tryz.zeroValue5
  i0 := by kernel_rfl
  i3 := by kernel_rfl
  i4 := by kernel_rfl
  i5 := by kernel_rfl
  i9 := by kernel_rfl
  i37 := by kernel_rfl
  i127 := by kernel_rfl }
open Go.RowKit in
theorem Tryz.stringslite_Clone (s : ByteArray) (w : World) (hlim : s.size ≤ 281474976710656) :
    Calls Tryz.prog 243 #[.string s] w fun e w' => e = .returned (.string s) ∧ Below w.heap.size w w' := Any.stringslite_Clone Tryz.laysM316 s w hlim
end Go.Proofs

/- WALKS of Take, of a text and a number out of bytes. -/
namespace Go.Proofs.YtcidoodaiimhfaaGreat
open Go.RowKit

set_option maxHeartbeats 400000 in
theorem cloneS_any (s : ByteArray) (w : World) (hs : s.size ≤ 281474976710656) :
    Calls Tryz.prog 226 #[.string s] w fun e w' => e = .returned (.string s) ∧ Below w.heap.size w w' := by
  go_enter Tryz.func226, Tryz.ntmps226
  go_wp2_with (go_at_call 243; refine (Tryz.stringslite_Clone s _ hs).mono ?_; rintro e w' ⟨rfl, hb⟩)
  go_ret
  exact ⟨rfl, hb⟩

set_option maxHeartbeats 400000 in
theorem take_err (b : Nat) (s : ByteArray) (l : List UInt8) (n : Nat) (w : World) (h : AtL b s l w) (hn : l.length < n) (hm : n ≤ 1000000000) :
    Calls Tryz.prog 174 #[.pointer (some ⟨b, 0, none⟩), .int .i64 n] w fun e w' => e = .panicked [{ v := .iface 194 (.agg #[.int .i64 (8)]), recovered := false }] ∧ Kept (one b) w w' := by
  have hl := h.len
  obtain ⟨h0, h1, h2, h3, h4⟩ := h.1
  unfold maxLen at h4
  have e1 : s.size ≤ (s.size - l.length) + l.length := by omega
  have e2 : (s.size - l.length) + l.length ≤ s.size := by omega
  generalize s.size - l.length = k at *
  go_enter Tryz.func174, Tryz.ntmps174
  go_wp2
  go_quiet (fail)
  go_wp2_with (go_at_call 183; refine (giveUp_any _ _).mono ?_; rintro e w' ⟨rfl, rfl⟩)
  exact ⟨rfl, rfl, (Kept.refl _ _).drewN nq⟩

set_option maxRecDepth 100000 in
set_option maxHeartbeats 400000 in
theorem take_ok (b : Nat) (s : ByteArray) (l : List UInt8) (n : Nat) (w : World) (h : AtL b s l w) (hn : n ≤ l.length) (hs : s.size ≤ 281474976710656) :
    Calls Tryz.prog 174 #[.pointer (some ⟨b, 0, none⟩), .int .i64 n] w fun e w' => e = .returned (.string ⟨(l.take n).toArray⟩) ∧ AtL b s (l.drop n) w' ∧ Kept (one b) w w' := by
  have hl := h.len
  obtain ⟨h0, h1, h2, h3, h4⟩ := h.1
  unfold maxLen at h4
  have hsl : ∀ W, (Instr.slice 9 (.string s) (some (.int .i64 (s.size - l.length : Nat))) (some (.int .i64 ((s.size - l.length : Nat) + n))) none).run Tryz.prog W = .ok (.string ⟨(l.take n).toArray⟩) W := by
    intro W
    rw [run_slice_string (P := Tryz.prog) W 9 s .i64 .i64 _ _ Tryz.underlying9 (by omega) (by omega) (by omega)]
    have e3 : (((s.size - l.length : Nat) : Int) + n).toNat = s.size - l.length + n := by omega
    rw [e3, Int.toNat_natCast, extract_suffix h.2]
  have hset : At b s (s.size - (l.drop n).length) (w.setCell ⟨b, 1, none⟩ (.int .i64 ((s.size - l.length : Nat) + n))) := by
    have e3 : s.size - (l.drop n).length = s.size - l.length + n := by rw [List.length_drop]; omega
    rw [e3]
    have := h.1.set (j := s.size - l.length + n) (by omega)
    simpa using this
  have hsz : (ByteArray.mk (l.take n).toArray).size ≤ 281474976710656 := by rw [size_mk, List.length_take]; omega
  have hsuf : l.drop n <:+ s.data.toList := (List.drop_suffix n l).trans h.2
  have HSET := hide hset
  have HZ := hide hsz
  have e1 : s.size ≤ (s.size - l.length) + l.length := by omega
  have e2 : (s.size - l.length) + l.length ≤ s.size := by omega
  clear hset hsz
  generalize s.size - l.length = k at *
  generalize ByteArray.mk (l.take n).toArray = x at *
  go_enter Tryz.func174, Tryz.ntmps174
  go_wp2
  go_quiet (fail)
  go_wp2
  go_region_with (go_at_call 226; refine (cloneS_any _ _ (unhide HZ)).mono ?_; rintro e w' ⟨rfl, hb⟩)
  all_goals
    go_wp2
    go_ret
    have hk0 := Kept.of_below hb (fun _ => False)
    have hk1 : Kept (fun _ => False) (w.setCell ⟨b, 1, none⟩ (.int .i64 ((k : Int) + n))) w' := by
      refine Kept.trans ?_ hk0
      exact ⟨rfl, rfl, rfl, Nat.le_refl _, fun _ _ _ => rfl⟩
    refine ⟨rfl, ⟨(unhide HSET).kept hk1 (fun x => x), hsuf⟩, ?_⟩
    exact ((Kept.refl _ _).set1 _ _).trans (hk1.mono (fun _ _ x => x.elim))

set_option maxRecDepth 100000 in
set_option maxHeartbeats 1000000 in
theorem leftd_any (b : Nat) (s : ByteArray) (l : List UInt8) (w : World) (h : AtL b s l w) :
    Calls Tryz.prog 175 #[.pointer (some ⟨b, 0, none⟩)] w fun e w' => e = .returned (.string ⟨l.toArray⟩) ∧ ∃ n, w' = w.drewN n := by
  have hl := h.len
  obtain ⟨h0, h1, h2, h3, h4⟩ := h.1
  have hsl : ∀ W : World, (Instr.slice 9 (.string s) (some (.int .i64 ((s.size - l.length : Nat) : Int))) none none).run Tryz.prog W = .ok (.string ⟨l.toArray⟩) W := fun W => by
    rw [run_slice_string_from_if (P := Tryz.prog) W 9 s .i64 _ Tryz.underlying9, if_pos (by omega), Int.toNat_natCast, extract_suffix_all h.2]
  clear h
  generalize s.size - l.length = p at *
  generalize (⟨l.toArray⟩ : ByteArray) = L at *
  go_enter Tryz.func175, Tryz.ntmps175
  go_wp2_with fail
  go_quiet (fail)
  go_wp2_with fail
  go_ret
  exact ⟨rfl, _, rfl⟩
theorem byte_lt (c : UInt8) : c.toNat ≤ 255 := by have := c.toNat_lt; omega
/-- a text out of bytes: how many, and they -/
def pText : List UInt8 → Option (ByteArray × List UInt8)
  | [] => none
  | c :: r => if r.length < c.toNat then none else some (⟨(r.take c.toNat).toArray⟩, r.drop c.toNat)
theorem text_ok (b : Nat) (s : ByteArray) (l : List UInt8) (t : ByteArray) (r : List UInt8) (w : World) (h : AtL b s l w) (hs : s.size ≤ 281474976710656) (hp : pText l = some (t, r)) :
    Calls Tryz.prog 177 #[.pointer (some ⟨b, 0, none⟩)] w fun e w' => e = .returned (.string t) ∧ AtL b s r w' ∧ Kept (one b) w w' := by
  cases l with
  | nil => cases hp
  | cons c q =>
    simp only [pText] at hp
    split at hp
    · cases hp
    rename_i hn
    injection hp with hp
    injection hp with e1 e2
    have HN := hide (next_ok b s c q w h)
    have HT : Hid (∀ W, AtL b s q W → Calls Tryz.prog 174 #[.pointer (some ⟨b, 0, none⟩), .int .i64 c.toNat] W fun e w' => e = .returned (.string t) ∧ AtL b s r w' ∧ Kept (one b) W w') := fun W hW => by
      have := take_ok b s q c.toNat W hW (by omega) hs
      rw [e1, e2] at this
      exact this
    have hc := byte_lt c
    have hc' : ((c.toNat : Nat) : Int) ≤ 255 := by omega
    clear h e1 e2 hn
    go_enter Tryz.func177, Tryz.ntmps177
    go_wp2_with fail
    refine HN.out.mono ?_
    rintro e w1 ⟨rfl, h1, hk1⟩
    have H1 := hide h1
    clear h1
    go_wp2_with fail
    refine (HT.out _ H1.out).mono ?_
    rintro e w2 ⟨rfl, h2, hk2⟩
    have H2 := hide h2
    clear h2
    go_wp2_with fail
    go_ret
    exact ⟨rfl, H2.out, hk1.trans hk2⟩
theorem text_err (b : Nat) (s : ByteArray) (l : List UInt8) (w : World) (h : AtL b s l w) (hp : pText l = none) :
    Calls Tryz.prog 177 #[.pointer (some ⟨b, 0, none⟩)] w fun e w' => e = .panicked [{ v := .iface 194 (.agg #[.int .i64 (8)]), recovered := false }] ∧ Kept (one b) w w' := by
  cases l with
  | nil =>
    have HN := hide (next_short b s w h)
    clear h
    go_enter Tryz.func177, Tryz.ntmps177
    go_wp2_with fail
    refine HN.out.mono ?_
    rintro e w1 ⟨rfl, hk1⟩
    exact ⟨rfl, rfl, hk1⟩
  | cons c q =>
    simp only [pText] at hp
    split at hp
    · rename_i hn
      have HN := hide (next_ok b s c q w h)
      have hc := byte_lt c
      have hc' : ((c.toNat : Nat) : Int) ≤ 255 := by omega
      have HT : Hid (∀ W, AtL b s q W → Calls Tryz.prog 174 #[.pointer (some ⟨b, 0, none⟩), .int .i64 c.toNat] W fun e w' => e = .panicked [{ v := .iface 194 (.agg #[.int .i64 (8)]), recovered := false }] ∧ Kept (one b) W w') := fun W hW => take_err b s q c.toNat W hW hn (by omega)
      clear h hn hp
      go_enter Tryz.func177, Tryz.ntmps177
      go_wp2_with fail
      refine HN.out.mono ?_
      rintro e w1 ⟨rfl, h1, hk1⟩
      have H1 := hide h1
      clear h1
      go_wp2_with fail
      refine (HT.out _ H1.out).mono ?_
      rintro e w2 ⟨rfl, hk2⟩
      exact ⟨rfl, rfl, hk1.trans hk2⟩
    · cases hp
end Go.Proofs.YtcidoodaiimhfaaGreat

/- WALK of a number out of bytes. -/
namespace Go.Proofs.YtcidoodaiimhfaaGreat
open Go.RowKit

theorem wraps64 (n : Int) (h₀ : 0 ≤ n) (h₁ : n < 2 ^ 63) : IntKind.i64.wrap n = n := by rw [IntKind.wrap_i64]; omega
theorem or8 (x y : Int) (hx₀ : 0 ≤ x) (hx : x % 256 = 0) (hx₁ : x < 9223372036854775808) (h₀ : 0 ≤ y) (h₁ : y < 256) : bits .or .i64 x y = x + y :=
  bits_join .i64 63 (by decide) wraps64 8 x y hx₀ hx hx₁ h₀ h₁ (by omega)
def numTo (l : List UInt8) (k : Nat) : Nat := (l.take k).foldl (fun n c => n * 256 + c.toNat) 0
theorem numTo_succ {l : List UInt8} {k : Nat} {c : UInt8} {r : List UInt8} (h : l.drop k = c :: r) : numTo l (k + 1) = numTo l k * 256 + c.toNat := by
  have hk : k < l.length := by
    rcases Nat.lt_or_ge k l.length with h1 | h1
    · exact h1
    · rw [List.drop_of_length_le h1] at h; cases h
  have hc : l[k] = c := by
    rw [List.drop_eq_getElem_cons hk] at h
    injection h
  unfold numTo
  rw [List.take_succ_eq_append_getElem hk, List.foldl_append, hc]
  rfl
theorem numTo_lt (l : List UInt8) : ∀ k, numTo l k < 256 ^ k
  | 0 => by simp [numTo]
  | k + 1 => by
    have ih := numTo_lt l k
    rw [Nat.pow_succ]
    cases h : l.drop k with
    | nil =>
      have h1 : l.length ≤ k := by
        rcases Nat.lt_or_ge k l.length with h2 | h2
        · rw [List.drop_eq_getElem_cons h2] at h; cases h
        · exact h2
      have e : numTo l (k + 1) = numTo l k := by unfold numTo; rw [List.take_of_length_le (by omega), List.take_of_length_le h1]
      rw [e]
      omega
    | cons c r =>
      rw [numTo_succ h]
      have := byte_lt c
      omega
set_option maxHeartbeats 1000000 in
theorem number_ok (b : Nat) (s : ByteArray) (l : List UInt8) (w : World) (h : AtL b s l w) (hl : 4 ≤ l.length) :
    Calls Tryz.prog 182 #[.pointer (some ⟨b, 0, none⟩)] w fun e w' => e = .returned (.int .i64 (((numTo l 4 : Nat) : Int) - 999999999)) ∧ AtL b s (l.drop 4) w' ∧ Kept (one b) w w' := by
  have H0 := hide h
  clear h
  have hb4 := numTo_lt l 4
  go_enter Tryz.func182, Tryz.ntmps182
  go_wp2_with fail
  go_loopw [3, 4] (fun n i wr => ∃ k : Nat, k ≤ 4 ∧ i = .int .i64 k ∧ n = .int .i64 (numTo l k : Nat) ∧ AtL b s (l.drop k) wr ∧ Kept (one b) w wr) (fun _ i _ => 4 - (intOf i).toNat)
  case atStart => exact ⟨0, by omega, rfl, rfl, by rw [List.drop_zero]; exact H0.out, Kept.refl _ _⟩
  case round =>
    obtain ⟨k, hk, rfl, rfl, hA, hK⟩ := hrel
    clear H0
    by_cases hlt : k < 4
    · have hlt' : ((k : Nat) : Int) < 4 := by omega
      have hd : l.drop k = l[k] :: l.drop (k + 1) := List.drop_eq_getElem_cons (by omega)
      have HS := hide (numTo_succ hd)
      rw [hd] at hA
      have HN := hide (next_ok b s _ _ wr hA)
      have hn := numTo_lt l k
      have hn3 : numTo l k < 16777216 := Nat.lt_of_lt_of_le hn (by
        have : k ≤ 3 := by omega
        exact Nat.le_trans (Nat.pow_le_pow_right (by omega) this) (by decide))
      have hc := byte_lt l[k]
      have hc' : ((l[k].toNat : Nat) : Int) ≤ 255 := by omega
      have hn' : ((numTo l k : Nat) : Int) < 16777216 := by omega
      clear hd hA hn
      generalize l[k] = c at *
      generalize numTo l k = N at *
      go_wp2_with fail
      refine HN.out.mono ?_
      rintro e w1 ⟨rfl, h1, hk1⟩
      have H1 := hide h1
      clear h1
      go_wp2_with fail
      go_roundw
      case rel => exact ⟨k + 1, by omega, by go_num, by rw [HS.out, or8 _ _ (by omega) (by omega) (by omega) (by omega) (by omega)]; go_num, H1.out, hK.trans hk1⟩
      case measure => simp [intOf]; omega
    · obtain rfl : k = 4 := by omega
      have HA := hide hA
      clear hA
      have hb' : ((numTo l 4 : Nat) : Int) < 4294967296 := by have h4 : (256 : Nat) ^ 4 = 4294967296 := (by decide); omega
      go_wp2_with fail
      go_ret
      exact ⟨rfl, HA.out, hK⟩
set_option maxHeartbeats 1000000 in
theorem number_err (b : Nat) (s : ByteArray) (l : List UInt8) (w : World) (h : AtL b s l w) (hl : l.length < 4) :
    Calls Tryz.prog 182 #[.pointer (some ⟨b, 0, none⟩)] w fun e w' => e = .panicked [{ v := .iface 194 (.agg #[.int .i64 (8)]), recovered := false }] ∧ Kept (one b) w w' := by
  have H0 := hide h
  clear h
  go_enter Tryz.func182, Tryz.ntmps182
  go_wp2_with fail
  go_loopw [3, 4] (fun n i wr => ∃ k : Nat, k ≤ l.length ∧ i = .int .i64 k ∧ n = .int .i64 (numTo l k : Nat) ∧ AtL b s (l.drop k) wr ∧ Kept (one b) w wr) (fun _ i _ => 4 - (intOf i).toNat)
  case atStart => exact ⟨0, by omega, rfl, rfl, by rw [List.drop_zero]; exact H0.out, Kept.refl _ _⟩
  case round =>
    obtain ⟨k, hk, rfl, rfl, hA, hK⟩ := hrel
    clear H0
    have hlt' : ((k : Nat) : Int) < 4 := by omega
    have hn := numTo_lt l k
    have hn3 : numTo l k < 16777216 := Nat.lt_of_lt_of_le hn (by
      have : k ≤ 3 := by omega
      exact Nat.le_trans (Nat.pow_le_pow_right (by omega) this) (by decide))
    have hn' : ((numTo l k : Nat) : Int) < 16777216 := by omega
    by_cases hlt : k < l.length
    · have hd : l.drop k = l[k] :: l.drop (k + 1) := List.drop_eq_getElem_cons (by omega)
      have HS := hide (numTo_succ hd)
      rw [hd] at hA
      have HN := hide (next_ok b s _ _ wr hA)
      have hc := byte_lt l[k]
      have hc' : ((l[k].toNat : Nat) : Int) ≤ 255 := by omega
      clear hd hA hn
      generalize l[k] = c at *
      generalize numTo l k = N at *
      go_wp2_with fail
      refine HN.out.mono ?_
      rintro e w1 ⟨rfl, h1, hk1⟩
      have H1 := hide h1
      clear h1
      go_wp2_with fail
      go_roundw
      case rel => exact ⟨k + 1, by omega, by go_num, by rw [HS.out, or8 _ _ (by omega) (by omega) (by omega) (by omega) (by omega)]; go_num, H1.out, hK.trans hk1⟩
      case measure => simp [intOf]; omega
    · rw [List.drop_of_length_le (by omega)] at hA
      have HN := hide (next_short b s wr hA)
      clear hA hn
      generalize numTo l k = N at *
      go_wp2_with fail
      refine HN.out.mono ?_
      rintro e w1 ⟨rfl, hk1⟩
      exact ⟨rfl, rfl, hK.trans hk1⟩
/-- a number out of bytes -/
def pNum (l : List UInt8) : Option (Int × List UInt8) := if 4 ≤ l.length then some (((numTo l 4 : Nat) : Int) - 999999999, l.drop 4) else none
end Go.Proofs.YtcidoodaiimhfaaGreat

/- WALKS of pairs and scores out of bytes. -/
namespace Go.Proofs.YtcidoodaiimhfaaGreat
open Go.RowKit

def ppair (l : List UInt8) : Option ((ByteArray × ByteArray) × List UInt8) := (pText l).bind fun x => (pText x.2).map fun y => ((x.1, y.1), y.2)
set_option maxRecDepth 100000 in
set_option maxHeartbeats 1000000 in
theorem pair_any (b : Nat) (s : ByteArray) (l : List UInt8) (w : World) (h : AtL b s l w) (hs : s.size ≤ 281474976710656) :
    Calls Tryz.prog 179 #[.pointer (some ⟨b, 0, none⟩)] w fun e w' => Kept (one b) w w' ∧ (ppair l = none → e = .panicked [{ v := .iface 194 (.agg #[.int .i64 (8)]), recovered := false }]) ∧ ∀ x r, ppair l = some (x, r) → e = .returned (.agg #[.string x.1, .string x.2]) ∧ AtL b s r w' := by
  have hbl := h.lt
  have hA := h.alloc (.cells #[.string ⟨#[]⟩, .string ⟨#[]⟩] 87)
  have K0 : Kept (one b) w (w.alloc (.cells #[.string ⟨#[]⟩, .string ⟨#[]⟩] 87)) := (Kept.refl _ _).alloc _
  have HA := hide hA
  have HK := hide K0
  have q0 : Hid ((w.alloc (.cells #[.string ⟨#[]⟩, .string ⟨#[]⟩] 87)).cell? ⟨w.heap.size, 0, none⟩ = some (.string ⟨#[]⟩)) := by simp [Hid, go_sem]
  have q1 : Hid ((w.alloc (.cells #[.string ⟨#[]⟩, .string ⟨#[]⟩] 87)).cell? ⟨w.heap.size, 1, none⟩ = some (.string ⟨#[]⟩)) := by simp [Hid, go_sem]
  have f0 : Hid ((w.alloc (.cells #[.string ⟨#[]⟩, .string ⟨#[]⟩] 87)).frozen? ⟨w.heap.size, 0, none⟩ = false) := by simp [Hid, go_sem]
  have f1 : Hid ((w.alloc (.cells #[.string ⟨#[]⟩, .string ⟨#[]⟩] 87)).frozen? ⟨w.heap.size, 1, none⟩ = false) := by simp [Hid, go_sem]
  have z0 : Hid (w.heap.size < (w.alloc (.cells #[.string ⟨#[]⟩, .string ⟨#[]⟩] 87)).heap.size) := by simp [Hid]
  clear hA K0 h
  have hne : ¬ one b w.heap.size := fun e => by simp only [one] at e; omega
  cases h1 : pText l with
  | none =>
    have HP : Hid (ppair l = none) := by rw [Hid, ppair, h1]; rfl
    have HE : Hid (∀ W, AtL b s l W → Calls Tryz.prog 177 #[.pointer (some ⟨b, 0, none⟩)] W fun e w' => e = .panicked [{ v := .iface 194 (.agg #[.int .i64 (8)]), recovered := false }] ∧ Kept (one b) W w') := fun W hW => text_err b s l W hW h1
    clear h1
    go_enter Tryz.func179, Tryz.ntmps179
    go_wp2_with fail
    refine (HE.out _ HA.out).mono ?_
    rintro e w1 ⟨rfl, hk1⟩
    refine ⟨rfl, HK.out.trans hk1, fun _ => rfl, fun x r hx => ?_⟩
    rw [HP.out] at hx
    cases hx
  | some y =>
    obtain ⟨y1, q⟩ := y
    have HO : Hid (∀ W, AtL b s l W → Calls Tryz.prog 177 #[.pointer (some ⟨b, 0, none⟩)] W fun e w' => e = .returned (.string y1) ∧ AtL b s q w' ∧ Kept (one b) W w') := fun W hW => text_ok b s l y1 q W hW hs h1
    cases h2 : pText q with
    | none =>
      have HP : Hid (ppair l = none) := by rw [Hid, ppair, h1]; simp [h2]
      have HE : Hid (∀ W, AtL b s q W → Calls Tryz.prog 177 #[.pointer (some ⟨b, 0, none⟩)] W fun e w' => e = .panicked [{ v := .iface 194 (.agg #[.int .i64 (8)]), recovered := false }] ∧ Kept (one b) W w') := fun W hW => text_err b s q W hW h2
      clear h1 h2
      go_enter Tryz.func179, Tryz.ntmps179
      go_wp2_with fail
      refine (HO.out _ HA.out).mono ?_
      rintro e w1 ⟨rfl, hA1, hk1⟩
      have A1 := hide hA1
      clear hA1
      go_wp2_with fail
      refine (HE.out _ A1.out).mono ?_
      rintro e w2 ⟨rfl, hk2⟩
      refine ⟨rfl, (HK.out.trans hk1).trans hk2, fun _ => rfl, fun x r hx => ?_⟩
      rw [HP.out] at hx
      cases hx
    | some z =>
      obtain ⟨z1, r⟩ := z
      have HP : Hid (ppair l = some ((y1, z1), r)) := by rw [Hid, ppair, h1]; simp [h2]
      have HO2 : Hid (∀ W, AtL b s q W → Calls Tryz.prog 177 #[.pointer (some ⟨b, 0, none⟩)] W fun e w' => e = .returned (.string z1) ∧ AtL b s r w' ∧ Kept (one b) W w') := fun W hW => text_ok b s q z1 r W hW hs h2
      clear h1 h2
      go_enter Tryz.func179, Tryz.ntmps179
      go_wp2_with fail
      refine (HO.out _ HA.out).mono ?_
      rintro e w1 ⟨rfl, hA1, hk1⟩
      have A1 := hide hA1
      clear hA1
      go_wp2_with fail
      refine (HO2.out _ A1.out).mono ?_
      rintro e w2 ⟨rfl, hA2, hk2⟩
      have A2 := hide hA2
      have K2 := hide (hk1.trans hk2)
      have b0 := K2.out.cell' q0.out hne
      have b1 := K2.out.cell' q1.out hne
      have g0 := (K2.out.frozen (p := ⟨w.heap.size, 0, none⟩) z0.out hne).trans f0.out
      have g1 := (K2.out.frozen (p := ⟨w.heap.size, 1, none⟩) z0.out hne).trans f1.out
      clear hA2 A1 hk1 hk2 q0 q1 f0 f1
      go_wp2_with fail
      refine bodyPost_ret (v := .agg #[.string y1, .string z1]) (by simp [results, Tryz.results179, go_sem, b0, b1]) rfl ⟨?_, fun hx => ?_, fun x r' hx => ?_⟩
      · exact ((HK.out.trans K2.out).setCell (p := ⟨w.heap.size, 0, none⟩) (Or.inr (Nat.le_refl _)) _).setCell (p := ⟨w.heap.size, 1, none⟩) (Or.inr (Nat.le_refl _)) _
      · rw [HP.out] at hx; cases hx
      · rw [HP.out] at hx
        injection hx with hx
        injection hx with e1 e2
        subst e1 e2
        exact ⟨rfl, (A2.out.setOther (g := w.heap.size) (by omega) _).setOther (g := w.heap.size) (by omega) _⟩

theorem number_some {l : List UInt8} {n : Int} {q : List UInt8} (h : pNum l = some (n, q)) : 4 ≤ l.length ∧ n = ((numTo l 4 : Nat) : Int) - 999999999 ∧ q = l.drop 4 := by
  unfold pNum at h
  split at h
  · rename_i h4
    injection h with h
    injection h with e1 e2
    exact ⟨h4, e1.symm, e2.symm⟩
  · cases h
theorem number_none {l : List UInt8} (h : pNum l = none) : l.length < 4 := by
  unfold pNum at h
  split at h
  · cases h
  · omega
theorem num_ok (b : Nat) (s : ByteArray) (l : List UInt8) (n : Int) (q : List UInt8) (w : World) (h : AtL b s l w) (hp : pNum l = some (n, q)) :
    Calls Tryz.prog 182 #[.pointer (some ⟨b, 0, none⟩)] w fun e w' => e = .returned (.int .i64 n) ∧ AtL b s q w' ∧ Kept (one b) w w' := by
  obtain ⟨h4, rfl, rfl⟩ := number_some hp
  exact number_ok b s l w h h4

def pscore (l : List UInt8) : Option ((Int × ByteArray) × List UInt8) := (pNum l).bind fun x => (pText x.2).map fun y => ((x.1, y.1), y.2)
set_option maxRecDepth 100000 in
set_option maxHeartbeats 1000000 in
theorem score_any (b : Nat) (s : ByteArray) (l : List UInt8) (w : World) (h : AtL b s l w) (hs : s.size ≤ 281474976710656) :
    Calls Tryz.prog 181 #[.pointer (some ⟨b, 0, none⟩)] w fun e w' => Kept (one b) w w' ∧ (pscore l = none → e = .panicked [{ v := .iface 194 (.agg #[.int .i64 (8)]), recovered := false }]) ∧ ∀ x r, pscore l = some (x, r) → e = .returned (.agg #[.int .i64 x.1, .string x.2]) ∧ AtL b s r w' := by
  have hbl := h.lt
  have hA := h.alloc (.cells #[.int .i64 0, .string ⟨#[]⟩] 89)
  have K0 : Kept (one b) w (w.alloc (.cells #[.int .i64 0, .string ⟨#[]⟩] 89)) := (Kept.refl _ _).alloc _
  have HA := hide hA
  have HK := hide K0
  have q0 : Hid ((w.alloc (.cells #[.int .i64 0, .string ⟨#[]⟩] 89)).cell? ⟨w.heap.size, 0, none⟩ = some (.int .i64 0)) := by simp [Hid, go_sem]
  have q1 : Hid ((w.alloc (.cells #[.int .i64 0, .string ⟨#[]⟩] 89)).cell? ⟨w.heap.size, 1, none⟩ = some (.string ⟨#[]⟩)) := by simp [Hid, go_sem]
  have f0 : Hid ((w.alloc (.cells #[.int .i64 0, .string ⟨#[]⟩] 89)).frozen? ⟨w.heap.size, 0, none⟩ = false) := by simp [Hid, go_sem]
  have f1 : Hid ((w.alloc (.cells #[.int .i64 0, .string ⟨#[]⟩] 89)).frozen? ⟨w.heap.size, 1, none⟩ = false) := by simp [Hid, go_sem]
  have z0 : Hid (w.heap.size < (w.alloc (.cells #[.int .i64 0, .string ⟨#[]⟩] 89)).heap.size) := by simp [Hid]
  clear hA K0 h
  have hne : ¬ one b w.heap.size := fun e => by simp only [one] at e; omega
  cases h1 : pNum l with
  | none =>
    have HP : Hid (pscore l = none) := by rw [Hid, pscore, h1]; rfl
    have HE : Hid (∀ W, AtL b s l W → Calls Tryz.prog 182 #[.pointer (some ⟨b, 0, none⟩)] W fun e w' => e = .panicked [{ v := .iface 194 (.agg #[.int .i64 (8)]), recovered := false }] ∧ Kept (one b) W w') := fun W hW => number_err b s l W hW (number_none h1)
    clear h1
    go_enter Tryz.func181, Tryz.ntmps181
    go_wp2_with fail
    refine (HE.out _ HA.out).mono ?_
    rintro e w1 ⟨rfl, hk1⟩
    refine ⟨rfl, HK.out.trans hk1, fun _ => rfl, fun x r hx => ?_⟩
    rw [HP.out] at hx
    cases hx
  | some y =>
    obtain ⟨y1, q⟩ := y
    have HO : Hid (∀ W, AtL b s l W → Calls Tryz.prog 182 #[.pointer (some ⟨b, 0, none⟩)] W fun e w' => e = .returned (.int .i64 y1) ∧ AtL b s q w' ∧ Kept (one b) W w') := fun W hW => num_ok b s l y1 q W hW h1
    cases h2 : pText q with
    | none =>
      have HP : Hid (pscore l = none) := by rw [Hid, pscore, h1]; simp [h2]
      have HE : Hid (∀ W, AtL b s q W → Calls Tryz.prog 177 #[.pointer (some ⟨b, 0, none⟩)] W fun e w' => e = .panicked [{ v := .iface 194 (.agg #[.int .i64 (8)]), recovered := false }] ∧ Kept (one b) W w') := fun W hW => text_err b s q W hW h2
      clear h1 h2
      go_enter Tryz.func181, Tryz.ntmps181
      go_wp2_with fail
      refine (HO.out _ HA.out).mono ?_
      rintro e w1 ⟨rfl, hA1, hk1⟩
      have A1 := hide hA1
      clear hA1
      go_wp2_with fail
      refine (HE.out _ A1.out).mono ?_
      rintro e w2 ⟨rfl, hk2⟩
      refine ⟨rfl, (HK.out.trans hk1).trans hk2, fun _ => rfl, fun x r hx => ?_⟩
      rw [HP.out] at hx
      cases hx
    | some z =>
      obtain ⟨z1, r⟩ := z
      have HP : Hid (pscore l = some ((y1, z1), r)) := by rw [Hid, pscore, h1]; simp [h2]
      have HO2 : Hid (∀ W, AtL b s q W → Calls Tryz.prog 177 #[.pointer (some ⟨b, 0, none⟩)] W fun e w' => e = .returned (.string z1) ∧ AtL b s r w' ∧ Kept (one b) W w') := fun W hW => text_ok b s q z1 r W hW hs h2
      clear h1 h2
      go_enter Tryz.func181, Tryz.ntmps181
      go_wp2_with fail
      refine (HO.out _ HA.out).mono ?_
      rintro e w1 ⟨rfl, hA1, hk1⟩
      have A1 := hide hA1
      clear hA1
      go_wp2_with fail
      refine (HO2.out _ A1.out).mono ?_
      rintro e w2 ⟨rfl, hA2, hk2⟩
      have A2 := hide hA2
      have K2 := hide (hk1.trans hk2)
      have b0 := K2.out.cell' q0.out hne
      have b1 := K2.out.cell' q1.out hne
      have g0 := (K2.out.frozen (p := ⟨w.heap.size, 0, none⟩) z0.out hne).trans f0.out
      have g1 := (K2.out.frozen (p := ⟨w.heap.size, 1, none⟩) z0.out hne).trans f1.out
      clear hA2 A1 hk1 hk2 q0 q1 f0 f1
      go_wp2_with fail
      refine bodyPost_ret (v := .agg #[.int .i64 y1, .string z1]) (by simp [results, Tryz.results181, go_sem, b0, b1]) rfl ⟨?_, fun hx => ?_, fun x r' hx => ?_⟩
      · exact ((HK.out.trans K2.out).setCell (p := ⟨w.heap.size, 0, none⟩) (Or.inr (Nat.le_refl _)) _).setCell (p := ⟨w.heap.size, 1, none⟩) (Or.inr (Nat.le_refl _)) _
      · rw [HP.out] at hx; cases hx
      · rw [HP.out] at hx
        injection hx with hx
        injection hx with e1 e2
        subst e1 e2
        exact ⟨rfl, (A2.out.setOther (g := w.heap.size) (by omega) _).setOther (g := w.heap.size) (by omega) _⟩
end Go.Proofs.YtcidoodaiimhfaaGreat

/- Many out of bytes, as plain data. -/
namespace Go.Proofs.YtcidoodaiimhfaaGreat

/-- so many, one behind the other -/
def pTo {α : Type} (p : List UInt8 → Option (α × List UInt8)) (l : List UInt8) : Nat → Option (List α × List UInt8)
  | 0 => some ([], l)
  | k + 1 => (pTo p l k).bind fun x => (p x.2).map fun y => (x.1 ++ [y.1], y.2)
theorem pTo_none {α : Type} {p : List UInt8 → Option (α × List UInt8)} {l : List UInt8} {k : Nat} (h : pTo p l k = none) : ∀ n, k ≤ n → pTo p l n = none := by
  intro n hn
  induction n with
  | zero => obtain rfl : k = 0 := by omega
            exact h
  | succ n ih =>
    rcases Nat.lt_or_ge k (n + 1) with h1 | h1
    · rw [pTo, ih (by omega)]; rfl
    · obtain rfl : k = n + 1 := by omega
      exact h
theorem pTo_len {α : Type} {p : List UInt8 → Option (α × List UInt8)} {l : List UInt8} : ∀ {k : Nat} {xs : List α} {q : List UInt8}, pTo p l k = some (xs, q) → xs.length = k
  | 0, xs, q, h => by
    rw [pTo] at h
    injection h with h
    injection h with e1 e2
    rw [← e1]
    rfl
  | k + 1, xs, q, h => by
    rw [pTo] at h
    cases h1 : pTo p l k with
    | none => rw [h1] at h; cases h
    | some x =>
      rw [h1] at h
      simp only [Option.bind_some] at h
      cases h2 : p x.2 with
      | none => rw [h2] at h; cases h
      | some y =>
        rw [h2] at h
        simp only [Option.map_some] at h
        injection h with h
        injection h with e1 e2
        rw [← e1, List.length_append, pTo_len (k := k) (xs := x.1) (q := x.2) h1]
        rfl
/-- how many, and they -/
def pEach {α : Type} (p : List UInt8 → Option (α × List UInt8)) : List UInt8 → Option (List α × List UInt8)
  | [] => none
  | c :: r => pTo p r c.toNat
def rowT (xs : List ByteArray) : List Go.Value := xs.map Go.Value.string
def rowPI (xs : List (ByteArray × ByteArray)) : List Go.Value := (xs.map fun x => [Go.Value.string x.1, Go.Value.string x.2]).flatten
def rowS (xs : List (Int × ByteArray)) : List Go.Value := (xs.map fun x => [Go.Value.int .i64 x.1, Go.Value.string x.2]).flatten
end Go.Proofs.YtcidoodaiimhfaaGreat

/- WALK of many out of bytes: t. -/
namespace Go.Proofs.YtcidoodaiimhfaaGreat
open Go.RowKit

theorem textd_any (b : Nat) (s : ByteArray) (l : List UInt8) (w : World) (h : AtL b s l w) (hs : s.size ≤ 281474976710656) :
    Calls Tryz.prog 177 #[.pointer (some ⟨b, 0, none⟩)] w fun e w' => Kept (one b) w w' ∧ (pText l = none → e = .panicked [{ v := .iface 194 (.agg #[.int .i64 (8)]), recovered := false }]) ∧ ∀ x r, pText l = some (x, r) → e = .returned (.string x) ∧ AtL b s r w' := by
  cases hp : pText l with
  | none =>
    refine (text_err b s l w h hp).mono ?_
    rintro e w' ⟨rfl, hk⟩
    exact ⟨hk, fun _ => rfl, fun x r hx => by cases hx⟩
  | some y =>
    obtain ⟨t, r⟩ := y
    refine (text_ok b s l t r w h hs hp).mono ?_
    rintro e w' ⟨rfl, hA, hk⟩
    refine ⟨hk, (fun hx => by cases hx), fun x r' hx => ?_⟩
    injection hx with hx
    injection hx with e1 e2
    subst e1 e2
    exact ⟨rfl, hA⟩

theorem info_t : (Tryz.prog.info? 9).map (fun i => (i.zero, i.size, i.bytes)) = some (some (.string ⟨#[]⟩), 1, 16) := by kernel_rfl
set_option maxRecDepth 100000 in
set_option maxHeartbeats 2000000 in
theorem each_t (b : Nat) (s : ByteArray) (l : List UInt8) (w : World) (h : AtL b s l w) (hs : s.size ≤ 281474976710656) :
    Calls Tryz.prog 176 #[.pointer (some ⟨b, 0, none⟩), .func (.func 177) #[] #[]] w fun e w' => Kept (one b) w w' ∧ (pEach pText l = none → e = .panicked [{ v := .iface 194 (.agg #[.int .i64 (8)]), recovered := false }]) ∧ ∀ xs r, pEach pText l = some (xs, r) → AtL b s r w' ∧ ∃ v, e = .returned v ∧ w'.ownsRow w.heap.size 9 1 v xs.length (rowT xs) := by
  obtain ⟨i0, hi, hz0, hz1, hz2⟩ := info_parts info_t
  have hbl := h.lt
  cases l with
  | nil =>
    have HN := hide (next_short b s w h)
    clear h
    go_enter Tryz.func176, Tryz.ntmps176
    go_wp2_with fail
    refine HN.out.mono ?_
    rintro e w1 ⟨rfl, hk1⟩
    exact ⟨rfl, hk1, fun _ => rfl, fun xs r hx => by cases hx⟩
  | cons c q =>
    have HN := hide (next_ok b s c q w h)
    have hc := byte_lt c
    have hc' : ((c.toNat : Nat) : Int) ≤ 255 := by omega
    clear h
    show Calls _ _ _ _ fun e w' => Kept (one b) w w' ∧ (pTo pText q c.toNat = none → e = .panicked [{ v := .iface 194 (.agg #[.int .i64 (8)]), recovered := false }]) ∧ ∀ xs r, pTo pText q c.toNat = some (xs, r) → AtL b s r w' ∧ ∃ v, e = .returned v ∧ w'.ownsRow w.heap.size 9 1 v xs.length (rowT xs)
    generalize hcn : c.toNat = n at *
    clear hcn
    go_enter Tryz.func176, Tryz.ntmps176
    go_wp2_with fail
    refine HN.out.mono ?_
    rintro e w1 ⟨rfl, h1, hk1⟩
    have H1 := hide h1
    clear h1
    go_wp2_with fail
    go_loopw [5, 8] (fun v i wr => ∃ (k : Nat) (xs : List (ByteArray)) (r : List UInt8), k ≤ n ∧ i = .int .u8 k ∧ Hid (pTo pText q k = some (xs, r)) ∧ wr.ownsRow w.heap.size 9 1 v k (rowT xs) ∧ AtL b s r wr ∧ Kept (one b) w wr) (fun _ i _ => n - (intOf i).toNat)
    case atStart => exact ⟨0, [], q, by omega, rfl, rfl, World.ownsRow_nil _ _ _ _, H1.out, hk1⟩
    case round =>
      obtain ⟨k, xs, r, hk, rfl, HP, hown, hA, hK⟩ := hrel
      have hzr := hK.size
      clear H1 HN hk1
      by_cases hlt : k < n
      · have hlt' : ((k : Nat) : Int) < ((n : Nat) : Int) := by omega
        have HD := hide (textd_any b s r wr hA hs)
        cases hp : pText r with
        | none =>
          have HE : Hid (pTo pText q n = none) := pTo_none (k := k + 1) (by rw [pTo, HP.out]; simp [hp]) n (by omega)
          rw [hp] at HD
          clear hp hA
          go_wp2_with fail
          refine HD.out.mono ?_
          rintro e w2 ⟨hk2, he, -⟩
          obtain rfl := he (by first | rfl | trivial)
          refine ⟨rfl, hK.trans hk2, fun _ => rfl, fun xs' r' hx => ?_⟩
          rw [HE.out] at hx
          cases hx
        | some y =>
          obtain ⟨y1, r2⟩ := y
          have HE : Hid (pTo pText q (k + 1) = some (xs ++ [y1], r2)) := by rw [Hid, pTo, HP.out]; simp [hp]
          have hal := pTo_len HP.out
          rw [hp] at HD
          clear hp hA
          go_wp2_with fail
          refine HD.out.mono ?_
          rintro e w2 ⟨hk2, -, he⟩
          obtain ⟨rfl, hA2⟩ := he y1 r2 rfl
          have A2 := hide hA2
          have hz2' := hk2.size
          have hbr : b < wr.heap.size := Nat.lt_of_lt_of_le hbl hzr
          have hown2 : w2.ownsRow w.heap.size 9 1 _ k (rowT xs) := hk2.owns hown (fun j hj e => by have := (hown.lt j hj).1; simp only [one] at e; omega)
          clear hA2 he HD hown
          go_wp2_with (at_builtin; refine wpList_append_own _ rfl _ _ 24 rfl w.heap.size 9 i0 (.string ⟨#[]⟩) 1 16 Tryz.underlying24 hi hz0 hz1 hz2 rfl (by decide) _ _ _ rfl (hown2.alloc _) ⟨w2.heap.size, 0, none⟩ 1 1 [.string y1] rfl rfl ?c1 ?c2 ?c3 ?c4 ?c5 ?_)
          case c1 =>
            intro j u hj
            match j, hj with
            | 0, hj => simp at hj; subst hj; simp [Addr.add]
          case c2 => intro u hu; simp at hu; subst hu; rfl
          case c3 => unfold maxLen; omega
          case c4 => omega
          case c5 => simp; omega
          intro v' w4 hown4 hgrow _
          have K4 : Kept (one b) w w4 := ((hK.trans hk2).alloc _).grown hgrow (fun j hj => .inr (hown2.lt j hj).1)
          have A4 : AtL b s r2 w4 := (A2.out.alloc _).kept (S := fun j => w.heap.size ≤ j) ((Kept.refl _ _).grown hgrow (fun j hj => .inl (hown2.lt j hj).1)) (by omega)
          have hown5 : w4.ownsRow w.heap.size 9 1 v' (k + 1) (rowT (xs ++ [y1])) := by simpa [rowT] using hown4
          clear A2 hown4 hgrow
          go_wp2_with fail
          go_roundw
          case rel => exact ⟨k + 1, xs ++ [y1], r2, by omega, by go_num, HE, hown5, A4, K4⟩
          case measure => simp [intOf]; omega
      · have hge : ¬ ((k : Nat) : Int) < ((n : Nat) : Int) := by omega
        obtain rfl : k = n := by omega
        have hal := pTo_len HP.out
        have HA := hide hA
        clear hA
        go_wp2_with fail
        go_ret
        refine ⟨hK, fun hx => ?_, fun xs' r' hx => ?_⟩
        · rw [HP.out] at hx; cases hx
        · rw [HP.out] at hx
          injection hx with hx
          injection hx with e1 e2
          subst e1 e2
          rw [hal]
          exact ⟨HA.out, _, rfl, hown⟩
end Go.Proofs.YtcidoodaiimhfaaGreat

/- WALK of many out of bytes: p. -/
namespace Go.Proofs.YtcidoodaiimhfaaGreat
open Go.RowKit

theorem info_p : (Tryz.prog.info? 87).map (fun i => (i.zero, i.size, i.bytes)) = some (some (.agg #[.string ⟨#[]⟩, .string ⟨#[]⟩]), 2, 32) := by kernel_rfl
set_option maxRecDepth 100000 in
set_option maxHeartbeats 2000000 in
theorem each_p (b : Nat) (s : ByteArray) (l : List UInt8) (w : World) (h : AtL b s l w) (hs : s.size ≤ 281474976710656) :
    Calls Tryz.prog 178 #[.pointer (some ⟨b, 0, none⟩), .func (.func 179) #[] #[]] w fun e w' => Kept (one b) w w' ∧ (pEach ppair l = none → e = .panicked [{ v := .iface 194 (.agg #[.int .i64 (8)]), recovered := false }]) ∧ ∀ xs r, pEach ppair l = some (xs, r) → AtL b s r w' ∧ ∃ v, e = .returned v ∧ w'.ownsRow w.heap.size 87 2 v xs.length (rowPI xs) := by
  obtain ⟨i0, hi, hz0, hz1, hz2⟩ := info_parts info_p
  have hbl := h.lt
  cases l with
  | nil =>
    have HN := hide (next_short b s w h)
    clear h
    go_enter Tryz.func178, Tryz.ntmps178
    go_wp2_with fail
    refine HN.out.mono ?_
    rintro e w1 ⟨rfl, hk1⟩
    exact ⟨rfl, hk1, fun _ => rfl, fun xs r hx => by cases hx⟩
  | cons c q =>
    have HN := hide (next_ok b s c q w h)
    have hc := byte_lt c
    have hc' : ((c.toNat : Nat) : Int) ≤ 255 := by omega
    clear h
    show Calls _ _ _ _ fun e w' => Kept (one b) w w' ∧ (pTo ppair q c.toNat = none → e = .panicked [{ v := .iface 194 (.agg #[.int .i64 (8)]), recovered := false }]) ∧ ∀ xs r, pTo ppair q c.toNat = some (xs, r) → AtL b s r w' ∧ ∃ v, e = .returned v ∧ w'.ownsRow w.heap.size 87 2 v xs.length (rowPI xs)
    generalize hcn : c.toNat = n at *
    clear hcn
    go_enter Tryz.func178, Tryz.ntmps178
    go_wp2_with fail
    refine HN.out.mono ?_
    rintro e w1 ⟨rfl, h1, hk1⟩
    have H1 := hide h1
    clear h1
    go_wp2_with fail
    go_loopw [5, 8] (fun v i wr => ∃ (k : Nat) (xs : List (ByteArray × ByteArray)) (r : List UInt8), k ≤ n ∧ i = .int .u8 k ∧ Hid (pTo ppair q k = some (xs, r)) ∧ wr.ownsRow w.heap.size 87 2 v k (rowPI xs) ∧ AtL b s r wr ∧ Kept (one b) w wr) (fun _ i _ => n - (intOf i).toNat)
    case atStart => exact ⟨0, [], q, by omega, rfl, rfl, World.ownsRow_nil _ _ _ _, H1.out, hk1⟩
    case round =>
      obtain ⟨k, xs, r, hk, rfl, HP, hown, hA, hK⟩ := hrel
      have hzr := hK.size
      clear H1 HN hk1
      by_cases hlt : k < n
      · have hlt' : ((k : Nat) : Int) < ((n : Nat) : Int) := by omega
        have HD := hide (pair_any b s r wr hA hs)
        cases hp : ppair r with
        | none =>
          have HE : Hid (pTo ppair q n = none) := pTo_none (k := k + 1) (by rw [pTo, HP.out]; simp [hp]) n (by omega)
          rw [hp] at HD
          clear hp hA
          go_wp2_with fail
          refine HD.out.mono ?_
          rintro e w2 ⟨hk2, he, -⟩
          obtain rfl := he (by first | rfl | trivial)
          refine ⟨rfl, hK.trans hk2, fun _ => rfl, fun xs' r' hx => ?_⟩
          rw [HE.out] at hx
          cases hx
        | some y =>
          obtain ⟨y1, r2⟩ := y
          have HE : Hid (pTo ppair q (k + 1) = some (xs ++ [y1], r2)) := by rw [Hid, pTo, HP.out]; simp [hp]
          have hal := pTo_len HP.out
          rw [hp] at HD
          clear hp hA
          go_wp2_with fail
          refine HD.out.mono ?_
          rintro e w2 ⟨hk2, -, he⟩
          obtain ⟨rfl, hA2⟩ := he y1 r2 rfl
          have A2 := hide hA2
          have hz2' := hk2.size
          have hbr : b < wr.heap.size := Nat.lt_of_lt_of_le hbl hzr
          have hown2 : w2.ownsRow w.heap.size 87 2 _ k (rowPI xs) := hk2.owns hown (fun j hj e => by have := (hown.lt j hj).1; simp only [one] at e; omega)
          clear hA2 he HD hown
          go_wp2_with (at_builtin; refine wpList_append_own _ rfl _ _ 25 rfl w.heap.size 87 i0 (.agg #[.string ⟨#[]⟩, .string ⟨#[]⟩]) 2 32 Tryz.underlying25 hi hz0 hz1 hz2 rfl (by decide) _ _ _ rfl (hown2.alloc _) ⟨w2.heap.size, 0, none⟩ 1 1 [.string y1.1, .string y1.2] rfl rfl ?c1 ?c2 ?c3 ?c4 ?c5 ?_)
          case c1 =>
            intro j u hj
            match j, hj with
            | 0, hj => simp at hj; subst hj; simp [Addr.add]
            | 1, hj => simp at hj; subst hj; simp [Addr.add]
            | _ + 2, hj => simp at hj
          case c2 => intro u hu; simp at hu; rcases hu with rfl | rfl <;> rfl
          case c3 => unfold maxLen; omega
          case c4 => omega
          case c5 => simp; omega
          intro v' w4 hown4 hgrow _
          have K4 : Kept (one b) w w4 := ((hK.trans hk2).alloc _).grown hgrow (fun j hj => .inr (hown2.lt j hj).1)
          have A4 : AtL b s r2 w4 := (A2.out.alloc _).kept (S := fun j => w.heap.size ≤ j) ((Kept.refl _ _).grown hgrow (fun j hj => .inl (hown2.lt j hj).1)) (by omega)
          have hown5 : w4.ownsRow w.heap.size 87 2 v' (k + 1) (rowPI (xs ++ [y1])) := by simpa [rowPI] using hown4
          clear A2 hown4 hgrow
          go_wp2_with fail
          go_roundw
          case rel => exact ⟨k + 1, xs ++ [y1], r2, by omega, by go_num, HE, hown5, A4, K4⟩
          case measure => simp [intOf]; omega
      · have hge : ¬ ((k : Nat) : Int) < ((n : Nat) : Int) := by omega
        obtain rfl : k = n := by omega
        have hal := pTo_len HP.out
        have HA := hide hA
        clear hA
        go_wp2_with fail
        go_ret
        refine ⟨hK, fun hx => ?_, fun xs' r' hx => ?_⟩
        · rw [HP.out] at hx; cases hx
        · rw [HP.out] at hx
          injection hx with hx
          injection hx with e1 e2
          subst e1 e2
          rw [hal]
          exact ⟨HA.out, _, rfl, hown⟩
end Go.Proofs.YtcidoodaiimhfaaGreat

/- WALK of many out of bytes: s. -/
namespace Go.Proofs.YtcidoodaiimhfaaGreat
open Go.RowKit

theorem info_s : (Tryz.prog.info? 89).map (fun i => (i.zero, i.size, i.bytes)) = some (some (.agg #[.int .i64 0, .string ⟨#[]⟩]), 2, 24) := by kernel_rfl
set_option maxRecDepth 100000 in
set_option maxHeartbeats 2000000 in
theorem each_s (b : Nat) (s : ByteArray) (l : List UInt8) (w : World) (h : AtL b s l w) (hs : s.size ≤ 281474976710656) :
    Calls Tryz.prog 180 #[.pointer (some ⟨b, 0, none⟩), .func (.func 181) #[] #[]] w fun e w' => Kept (one b) w w' ∧ (pEach pscore l = none → e = .panicked [{ v := .iface 194 (.agg #[.int .i64 (8)]), recovered := false }]) ∧ ∀ xs r, pEach pscore l = some (xs, r) → AtL b s r w' ∧ ∃ v, e = .returned v ∧ w'.ownsRow w.heap.size 89 2 v xs.length (rowS xs) := by
  obtain ⟨i0, hi, hz0, hz1, hz2⟩ := info_parts info_s
  have hbl := h.lt
  cases l with
  | nil =>
    have HN := hide (next_short b s w h)
    clear h
    go_enter Tryz.func180, Tryz.ntmps180
    go_wp2_with fail
    refine HN.out.mono ?_
    rintro e w1 ⟨rfl, hk1⟩
    exact ⟨rfl, hk1, fun _ => rfl, fun xs r hx => by cases hx⟩
  | cons c q =>
    have HN := hide (next_ok b s c q w h)
    have hc := byte_lt c
    have hc' : ((c.toNat : Nat) : Int) ≤ 255 := by omega
    clear h
    show Calls _ _ _ _ fun e w' => Kept (one b) w w' ∧ (pTo pscore q c.toNat = none → e = .panicked [{ v := .iface 194 (.agg #[.int .i64 (8)]), recovered := false }]) ∧ ∀ xs r, pTo pscore q c.toNat = some (xs, r) → AtL b s r w' ∧ ∃ v, e = .returned v ∧ w'.ownsRow w.heap.size 89 2 v xs.length (rowS xs)
    generalize hcn : c.toNat = n at *
    clear hcn
    go_enter Tryz.func180, Tryz.ntmps180
    go_wp2_with fail
    refine HN.out.mono ?_
    rintro e w1 ⟨rfl, h1, hk1⟩
    have H1 := hide h1
    clear h1
    go_wp2_with fail
    go_loopw [5, 8] (fun v i wr => ∃ (k : Nat) (xs : List (Int × ByteArray)) (r : List UInt8), k ≤ n ∧ i = .int .u8 k ∧ Hid (pTo pscore q k = some (xs, r)) ∧ wr.ownsRow w.heap.size 89 2 v k (rowS xs) ∧ AtL b s r wr ∧ Kept (one b) w wr) (fun _ i _ => n - (intOf i).toNat)
    case atStart => exact ⟨0, [], q, by omega, rfl, rfl, World.ownsRow_nil _ _ _ _, H1.out, hk1⟩
    case round =>
      obtain ⟨k, xs, r, hk, rfl, HP, hown, hA, hK⟩ := hrel
      have hzr := hK.size
      clear H1 HN hk1
      by_cases hlt : k < n
      · have hlt' : ((k : Nat) : Int) < ((n : Nat) : Int) := by omega
        have HD := hide (score_any b s r wr hA hs)
        cases hp : pscore r with
        | none =>
          have HE : Hid (pTo pscore q n = none) := pTo_none (k := k + 1) (by rw [pTo, HP.out]; simp [hp]) n (by omega)
          rw [hp] at HD
          clear hp hA
          go_wp2_with fail
          refine HD.out.mono ?_
          rintro e w2 ⟨hk2, he, -⟩
          obtain rfl := he (by first | rfl | trivial)
          refine ⟨rfl, hK.trans hk2, fun _ => rfl, fun xs' r' hx => ?_⟩
          rw [HE.out] at hx
          cases hx
        | some y =>
          obtain ⟨y1, r2⟩ := y
          have HE : Hid (pTo pscore q (k + 1) = some (xs ++ [y1], r2)) := by rw [Hid, pTo, HP.out]; simp [hp]
          have hal := pTo_len HP.out
          rw [hp] at HD
          clear hp hA
          go_wp2_with fail
          refine HD.out.mono ?_
          rintro e w2 ⟨hk2, -, he⟩
          obtain ⟨rfl, hA2⟩ := he y1 r2 rfl
          have A2 := hide hA2
          have hz2' := hk2.size
          have hbr : b < wr.heap.size := Nat.lt_of_lt_of_le hbl hzr
          have hown2 : w2.ownsRow w.heap.size 89 2 _ k (rowS xs) := hk2.owns hown (fun j hj e => by have := (hown.lt j hj).1; simp only [one] at e; omega)
          clear hA2 he HD hown
          go_wp2_with (at_builtin; refine wpList_append_own _ rfl _ _ 26 rfl w.heap.size 89 i0 (.agg #[.int .i64 0, .string ⟨#[]⟩]) 2 24 Tryz.underlying26 hi hz0 hz1 hz2 rfl (by decide) _ _ _ rfl (hown2.alloc _) ⟨w2.heap.size, 0, none⟩ 1 1 [.int .i64 y1.1, .string y1.2] rfl rfl ?c1 ?c2 ?c3 ?c4 ?c5 ?_)
          case c1 =>
            intro j u hj
            match j, hj with
            | 0, hj => simp at hj; subst hj; simp [Addr.add]
            | 1, hj => simp at hj; subst hj; simp [Addr.add]
            | _ + 2, hj => simp at hj
          case c2 => intro u hu; simp at hu; rcases hu with rfl | rfl <;> rfl
          case c3 => unfold maxLen; omega
          case c4 => omega
          case c5 => simp; omega
          intro v' w4 hown4 hgrow _
          have K4 : Kept (one b) w w4 := ((hK.trans hk2).alloc _).grown hgrow (fun j hj => .inr (hown2.lt j hj).1)
          have A4 : AtL b s r2 w4 := (A2.out.alloc _).kept (S := fun j => w.heap.size ≤ j) ((Kept.refl _ _).grown hgrow (fun j hj => .inl (hown2.lt j hj).1)) (by omega)
          have hown5 : w4.ownsRow w.heap.size 89 2 v' (k + 1) (rowS (xs ++ [y1])) := by simpa [rowS] using hown4
          clear A2 hown4 hgrow
          go_wp2_with fail
          go_roundw
          case rel => exact ⟨k + 1, xs ++ [y1], r2, by omega, by go_num, HE, hown5, A4, K4⟩
          case measure => simp [intOf]; omega
      · have hge : ¬ ((k : Nat) : Int) < ((n : Nat) : Int) := by omega
        obtain rfl : k = n := by omega
        have hal := pTo_len HP.out
        have HA := hide hA
        clear hA
        go_wp2_with fail
        go_ret
        refine ⟨hK, fun hx => ?_, fun xs' r' hx => ?_⟩
        · rw [HP.out] at hx; cases hx
        · rw [HP.out] at hx
          injection hx with hx
          injection hx with e1 e2
          subst e1 e2
          rw [hal]
          exact ⟨HA.out, _, rfl, hown⟩
end Go.Proofs.YtcidoodaiimhfaaGreat

/- An item out of bytes, as plain data. -/
namespace Go.Proofs.YtcidoodaiimhfaaGreat
open Go.RowKit

/-- that, and nothing behind it -/
def whole {α : Type} (o : Option (α × List UInt8)) : Option α := match o with
  | some (a, []) => some a
  | _ => none
/-- an item out of bytes: as it is told -/
def pItem : List UInt8 → Option Itm
  | [] => none
  | c :: r =>
    if c.toNat = 1 then some ⟨1, ⟨r.toArray⟩, [], [], []⟩ else
    if c.toNat = 2 then (whole (pEach pText r)).map fun x => ⟨2, ⟨#[]⟩, x, [], []⟩ else
    if c.toNat = 3 then (whole (pEach pText r)).map fun x => ⟨3, ⟨#[]⟩, x, [], []⟩ else
    if c.toNat = 4 then (whole (pEach ppair r)).map fun x => ⟨4, ⟨#[]⟩, [], x, []⟩ else
    if c.toNat = 5 then (whole (pEach pscore r)).map fun x => ⟨5, ⟨#[]⟩, [], [], x⟩ else none
theorem pText_size {l r : List UInt8} {t : ByteArray} (h : pText l = some (t, r)) : t.size ≤ 255 := by
  cases l with
  | nil => cases h
  | cons c q =>
    simp only [pText] at h
    split at h
    · cases h
    · injection h with h
      injection h with e1 e2
      have := byte_lt c
      rw [← e1, size_mk, List.length_take]
      omega
theorem pTo_all {α : Type} {p : List UInt8 → Option (α × List UInt8)} {P : α → Prop} (hp : ∀ l a r, p l = some (a, r) → P a) {l : List UInt8} : ∀ {k : Nat} {xs : List α} {q : List UInt8}, pTo p l k = some (xs, q) → ∀ a ∈ xs, P a
  | 0, xs, q, h => by
    rw [pTo] at h
    injection h with h
    injection h with e1 e2
    rw [← e1]
    simp
  | k + 1, xs, q, h => by
    rw [pTo] at h
    cases h1 : pTo p l k with
    | none => rw [h1] at h; cases h
    | some x =>
      rw [h1] at h
      simp only [Option.bind_some] at h
      cases h2 : p x.2 with
      | none => rw [h2] at h; cases h
      | some y =>
        rw [h2] at h
        simp only [Option.map_some] at h
        injection h with h
        injection h with e1 e2
        rw [← e1]
        intro a ha
        rcases List.mem_append.1 ha with ha | ha
        · exact pTo_all hp (k := k) (q := x.2) h1 a ha
        · simp at ha
          subst ha
          exact hp x.2 y.1 y.2 h2
theorem pEach_all {α : Type} {p : List UInt8 → Option (α × List UInt8)} {P : α → Prop} (hp : ∀ l a r, p l = some (a, r) → P a) {l : List UInt8} {xs : List α} {q : List UInt8} (h : pEach p l = some (xs, q)) : ∀ a ∈ xs, P a := by
  cases l with
  | nil => cases h
  | cons c r => exact pTo_all hp (k := c.toNat) (q := q) h
theorem pEach_len {α : Type} {p : List UInt8 → Option (α × List UInt8)} {l : List UInt8} {xs : List α} {q : List UInt8} (h : pEach p l = some (xs, q)) : xs.length ≤ 255 := by
  cases l with
  | nil => cases h
  | cons c r =>
    have h1 := pTo_len (k := c.toNat) (q := q) h
    have h2 := byte_lt c
    omega
theorem ppair_size {l r : List UInt8} {x : ByteArray × ByteArray} (h : ppair l = some (x, r)) : x.1.size ≤ 255 ∧ x.2.size ≤ 255 := by
  unfold ppair at h
  cases h1 : pText l with
  | none => rw [h1] at h; cases h
  | some y =>
    rw [h1] at h
    simp only [Option.bind_some] at h
    cases h2 : pText y.2 with
    | none => rw [h2] at h; cases h
    | some z =>
      rw [h2] at h
      simp only [Option.map_some] at h
      injection h with h
      injection h with e1 e2
      rw [← e1]
      exact ⟨pText_size (t := y.1) (r := y.2) h1, pText_size (t := z.1) (r := z.2) h2⟩
theorem pscore_size {l r : List UInt8} {x : Int × ByteArray} (h : pscore l = some (x, r)) : x.2.size ≤ 255 := by
  unfold pscore at h
  cases h1 : pNum l with
  | none => rw [h1] at h; cases h
  | some y =>
    rw [h1] at h
    simp only [Option.bind_some] at h
    cases h2 : pText y.2 with
    | none => rw [h2] at h; cases h
    | some z =>
      rw [h2] at h
      simp only [Option.map_some] at h
      injection h with h
      injection h with e1 e2
      rw [← e1]
      exact pText_size (t := z.1) (r := z.2) h2
theorem rowP_get : ∀ (l : List (ByteArray × ByteArray)) (i : Nat) (h : i < l.length), (rowPI l)[i * 2]? = some (.string l[i].1) ∧ (rowPI l)[i * 2 + 1]? = some (.string l[i].2)
  | [], i, h => by simp at h
  | x :: l, 0, h => by simp [rowPI]
  | x :: l, i + 1, h => by
    have := rowP_get l i (by simpa using h)
    have e1 : (i + 1) * 2 = i * 2 + 1 + 1 := by omega
    have e2 : (i + 1) * 2 + 1 = i * 2 + 1 + 1 + 1 := by omega
    rw [e1]
    simpa [rowPI] using this
theorem rowS_get : ∀ (l : List (Int × ByteArray)) (i : Nat) (h : i < l.length), (rowS l)[i * 2]? = some (.int .i64 l[i].1) ∧ (rowS l)[i * 2 + 1]? = some (.string l[i].2)
  | [], i, h => by simp at h
  | x :: l, 0, h => by simp [rowS]
  | x :: l, i + 1, h => by
    have := rowS_get l i (by simpa using h)
    have e1 : (i + 1) * 2 = i * 2 + 1 + 1 := by omega
    have e2 : (i + 1) * 2 + 1 = i * 2 + 1 + 1 + 1 := by omega
    rw [e1]
    simpa [rowS] using this
/-- what lies from a block on stays -/
def Stays (B : Nat) (w w' : World) : Prop := ∀ g o u, B ≤ g → w.cell? ⟨g, o, none⟩ = some u → w'.cell? ⟨g, o, none⟩ = some u
theorem textsd_from {w w' : World} {B : Nat} {a : Option Addr} {cap : Nat} {xs : List ByteArray} (h : w.ownsRow B 9 1 (.slice a xs.length cap) xs.length (rowT xs)) (hw : Stays B w w') : TextsAt w' a xs := by
  rcases h.2 with ⟨hv, h0⟩ | ⟨g, cp, cur, hv, hg, _⟩
  · exact .inl (List.eq_nil_of_length_eq_zero h0)
  · injection hv with h1 h2 h3
    subst h1
    refine .inr ⟨g, 0, rfl, fun i hi => hw _ _ _ hg ?_⟩
    rw [Nat.zero_add, h.cellAt i (by omega)]
    simp [rowT, hi]
theorem pairsd_from {w w' : World} {B : Nat} {a : Option Addr} {cap : Nat} {xs : List (ByteArray × ByteArray)} (h : w.ownsRow B 87 2 (.slice a xs.length cap) xs.length (rowPI xs)) (hw : Stays B w w') : PairsAt w' a xs := by
  rcases h.2 with ⟨hv, h0⟩ | ⟨g, cp, cur, hv, hg, _⟩
  · exact .inl (List.eq_nil_of_length_eq_zero h0)
  · injection hv with h1 h2 h3
    subst h1
    refine .inr ⟨g, 0, rfl, fun i hi => ⟨hw _ _ _ hg ?_, hw _ _ _ hg ?_⟩⟩
    · rw [Nat.zero_add, h.cellAt (i * 2) (by omega)]
      exact (rowP_get xs i hi).1
    · rw [Nat.zero_add, h.cellAt (i * 2 + 1) (by omega)]
      exact (rowP_get xs i hi).2
theorem scoresd_from {w w' : World} {B : Nat} {a : Option Addr} {cap : Nat} {xs : List (Int × ByteArray)} (h : w.ownsRow B 89 2 (.slice a xs.length cap) xs.length (rowS xs)) (hw : Stays B w w') : ScoresAt w' a xs := by
  rcases h.2 with ⟨hv, h0⟩ | ⟨g, cp, cur, hv, hg, _⟩
  · exact .inl (List.eq_nil_of_length_eq_zero h0)
  · injection hv with h1 h2 h3
    subst h1
    refine .inr ⟨g, 0, rfl, fun i hi => ⟨hw _ _ _ hg ?_, hw _ _ _ hg ?_⟩⟩
    · rw [Nat.zero_add, h.cellAt (i * 2) (by omega)]
      exact (rowS_get xs i hi).1
    · rw [Nat.zero_add, h.cellAt (i * 2 + 1) (by omega)]
      exact (rowS_get xs i hi).2
/-- .. as far as it may be written to -/
def StaysF (B : Nat) (w w' : World) : Prop := ∀ g o u, B ≤ g → w.cell? ⟨g, o, none⟩ = some u → w.frozen? ⟨g, o, none⟩ = false → w'.cell? ⟨g, o, none⟩ = some u
theorem textsd_fromF {w w' : World} {B : Nat} {a : Option Addr} {cap : Nat} {xs : List ByteArray} (h : w.ownsRow B 9 1 (.slice a xs.length cap) xs.length (rowT xs)) (hw : StaysF B w w') : TextsAt w' a xs := by
  rcases h.2 with ⟨hv, h0⟩ | ⟨g, cp, cur, hv, hg, hh, _⟩
  · exact .inl (List.eq_nil_of_length_eq_zero h0)
  · injection hv with h1 h2 h3
    subst h1
    refine .inr ⟨g, 0, rfl, fun i hi => hw _ _ _ hg ?_ (by simp [World.frozen?, hh])⟩
    rw [Nat.zero_add, h.cellAt i (by omega)]
    simp [rowT, hi]
theorem pairsd_fromF {w w' : World} {B : Nat} {a : Option Addr} {cap : Nat} {xs : List (ByteArray × ByteArray)} (h : w.ownsRow B 87 2 (.slice a xs.length cap) xs.length (rowPI xs)) (hw : StaysF B w w') : PairsAt w' a xs := by
  rcases h.2 with ⟨hv, h0⟩ | ⟨g, cp, cur, hv, hg, hh, _⟩
  · exact .inl (List.eq_nil_of_length_eq_zero h0)
  · injection hv with h1 h2 h3
    subst h1
    refine .inr ⟨g, 0, rfl, fun i hi => ⟨hw _ _ _ hg ?_ (by simp [World.frozen?, hh]), hw _ _ _ hg ?_ (by simp [World.frozen?, hh])⟩⟩
    · rw [Nat.zero_add, h.cellAt (i * 2) (by omega)]
      exact (rowP_get xs i hi).1
    · rw [Nat.zero_add, h.cellAt (i * 2 + 1) (by omega)]
      exact (rowP_get xs i hi).2
theorem scoresd_fromF {w w' : World} {B : Nat} {a : Option Addr} {cap : Nat} {xs : List (Int × ByteArray)} (h : w.ownsRow B 89 2 (.slice a xs.length cap) xs.length (rowS xs)) (hw : StaysF B w w') : ScoresAt w' a xs := by
  rcases h.2 with ⟨hv, h0⟩ | ⟨g, cp, cur, hv, hg, hh, _⟩
  · exact .inl (List.eq_nil_of_length_eq_zero h0)
  · injection hv with h1 h2 h3
    subst h1
    refine .inr ⟨g, 0, rfl, fun i hi => ⟨hw _ _ _ hg ?_ (by simp [World.frozen?, hh]), hw _ _ _ hg ?_ (by simp [World.frozen?, hh])⟩⟩
    · rw [Nat.zero_add, h.cellAt (i * 2) (by omega)]
      exact (rowS_get xs i hi).1
    · rw [Nat.zero_add, h.cellAt (i * 2 + 1) (by omega)]
      exact (rowS_get xs i hi).2
theorem StaysF.of {B : Nat} {w w' : World} (h : Stays B w w') : StaysF B w w' := fun g o u hg hu _ => h g o u hg hu
theorem Kept.frozenK {S : Nat → Prop} {w w' : World} (h : Kept S w w') {p : Addr} {v : Value} (hc : w.cell? p = some v) (hs : ¬ S p.block) : w'.frozen? p = w.frozen? p := World.frozen?_of_block (h.block p.block (World.block_lt_of_cell? _ _ hc) hs)
theorem BoxAt.kept {w w' : World} {b B : Nat} {v0 v1 v2 v3 v4 : Value} (h : BoxAt w b v0 v1 v2 v3 v4) (hk : Kept (one B) w w') (hne : b ≠ B) : BoxAt w' b v0 v1 v2 v3 v4 :=
  ⟨hk.cell' h.c0 hne, hk.cell' h.c1 hne, hk.cell' h.c2 hne, hk.cell' h.c3 hne, hk.cell' h.c4 hne, Nat.lt_of_lt_of_le h.lt hk.size⟩
/-- nothing of a block is frozen -/
def SoftB (w : World) (b : Nat) : Prop := ∀ j, w.frozen? ⟨b, j, none⟩ = false
theorem SoftB.kept {w w' : World} {b B : Nat} (h : SoftB w b) (hk : Kept (one B) w w') (hl : b < w.heap.size) (hne : b ≠ B) : SoftB w' b := fun j => (hk.frozen (p := ⟨b, j, none⟩) hl hne).trans (h j)
end Go.Proofs.YtcidoodaiimhfaaGreat

/- Items and bytes, there and back. -/
namespace Go.Proofs.YtcidoodaiimhfaaGreat

theorem u8_of {n : Nat} {c : UInt8} (h : n % 256 = c.toNat) : UInt8.ofNat n = c := by
  apply UInt8.toNat_inj.1
  rw [ofNat_nat, h]
theorem text_there (t : ByteArray) (r : List UInt8) (h : t.size ≤ 255) : pText (encT t ++ r) = some (t, r) := by
  have e1 : (UInt8.ofNat t.size).toNat = t.size := by rw [ofNat_nat]; omega
  have e2 := size_list t
  show (if (t.data.toList ++ r).length < (UInt8.ofNat t.size).toNat then none else some ((⟨((t.data.toList ++ r).take (UInt8.ofNat t.size).toNat).toArray⟩ : ByteArray), (t.data.toList ++ r).drop (UInt8.ofNat t.size).toNat)) = some (t, r)
  rw [e1, if_neg (by rw [List.length_append]; omega), ← e2, List.take_left, List.drop_left]
theorem text_back {l r : List UInt8} {t : ByteArray} (h : pText l = some (t, r)) : l = encT t ++ r := by
  cases l with
  | nil => cases h
  | cons c q =>
    simp only [pText] at h
    split at h
    · cases h
    rename_i hn
    injection h with h
    injection h with e1 e2
    have hsz : t.size = c.toNat := by rw [← e1, size_mk, List.length_take]; omega
    have hc : UInt8.ofNat t.size = c := u8_of (by rw [hsz]; have := byte_lt c; omega)
    unfold encT
    rw [hc, ← e2, ← e1, toList_mk]
    show c :: q = c :: (q.take c.toNat ++ q.drop c.toNat)
    rw [List.take_append_drop]
theorem numTo_four (a b c d : UInt8) (r : List UInt8) : numTo (a :: b :: c :: d :: r) 4 = ((a.toNat * 256 + b.toNat) * 256 + c.toNat) * 256 + d.toNat := by
  simp [numTo]
theorem num_there (n : Int) (r : List UInt8) (h0 : -999999999 ≤ n) (h1 : n ≤ 999999999) : pNum (num4 n ++ r) = some (n, r) := by
  have hm : (n + 999999999).toNat ≤ 1999999998 := by omega
  have hn : ((n + 999999999).toNat : Int) = n + 999999999 := by omega
  unfold pNum num4
  generalize (n + 999999999).toNat = m at *
  rw [if_pos (by simp)]
  show some (((numTo (_ :: _ :: _ :: _ :: r) 4 : Nat) : Int) - 999999999, r) = some (n, r)
  rw [numTo_four, ofNat_nat, ofNat_nat, ofNat_nat, ofNat_nat]
  congr 2
  omega
theorem num_back {l r : List UInt8} {n : Int} (h : pNum l = some (n, r)) : l = num4 n ++ r := by
  obtain ⟨h4, rfl, rfl⟩ := number_some h
  match l, h4 with
  | a :: b :: c :: d :: q, _ =>
    rw [numTo_four]
    have ha := byte_lt a
    have hb := byte_lt b
    have hc := byte_lt c
    have hd := byte_lt d
    unfold num4
    have e : ((((((a.toNat * 256 + b.toNat) * 256 + c.toNat) * 256 + d.toNat : Nat) : Int) - 999999999) + 999999999).toNat = ((a.toNat * 256 + b.toNat) * 256 + c.toNat) * 256 + d.toNat := by omega
    rw [e, u8_of (c := a) (by omega), u8_of (c := b) (by omega), u8_of (c := c) (by omega), u8_of (c := d) (by omega)]
    rfl
theorem pair_there (x : ByteArray × ByteArray) (r : List UInt8) (h : x.1.size ≤ 255 ∧ x.2.size ≤ 255) : ppair (encP x ++ r) = some (x, r) := by
  unfold ppair encP
  rw [List.append_assoc, text_there _ _ h.1]
  simp [text_there _ _ h.2]
theorem score_there (x : Int × ByteArray) (r : List UInt8) (h : x.2.size ≤ 255) (h0 : -999999999 ≤ x.1) (h1 : x.1 ≤ 999999999) : pscore (encS x ++ r) = some (x, r) := by
  unfold pscore encS
  rw [List.append_assoc, num_there _ _ h0 h1]
  simp [text_there _ _ h]
theorem pair_back {l r : List UInt8} {x : ByteArray × ByteArray} (h : ppair l = some (x, r)) : l = encP x ++ r := by
  unfold ppair at h
  cases h1 : pText l with
  | none => rw [h1] at h; cases h
  | some y =>
    rw [h1] at h
    simp only [Option.bind_some] at h
    cases h2 : pText y.2 with
    | none => rw [h2] at h; cases h
    | some z =>
      rw [h2] at h
      simp only [Option.map_some] at h
      injection h with h
      injection h with e1 e2
      have b1 := text_back (t := y.1) (r := y.2) h1
      have b2 := text_back (t := z.1) (r := z.2) h2
      rw [← e1, ← e2, b1, b2]
      unfold encP
      rw [List.append_assoc]
theorem score_back {l r : List UInt8} {x : Int × ByteArray} (h : pscore l = some (x, r)) : l = encS x ++ r := by
  unfold pscore at h
  cases h1 : pNum l with
  | none => rw [h1] at h; cases h
  | some y =>
    rw [h1] at h
    simp only [Option.bind_some] at h
    cases h2 : pText y.2 with
    | none => rw [h2] at h; cases h
    | some z =>
      rw [h2] at h
      simp only [Option.map_some] at h
      injection h with h
      injection h with e1 e2
      have b1 := num_back (n := y.1) (r := y.2) h1
      have b2 := text_back (t := z.1) (r := z.2) h2
      rw [← e1, ← e2, b1, b2]
      unfold encS
      rw [List.append_assoc]
theorem to_there {α : Type} {p : List UInt8 → Option (α × List UInt8)} {enc : α → List UInt8} (xs : List α) (hp : ∀ a ∈ xs, ∀ r, p (enc a ++ r) = some (a, r)) (r : List UInt8) : ∀ k, k ≤ xs.length → pTo p ((xs.map enc).flatten ++ r) k = some (xs.take k, ((xs.drop k).map enc).flatten ++ r)
  | 0, _ => by simp [pTo]
  | k + 1, hk => by
    have hlt : k < xs.length := by omega
    rw [pTo, to_there xs hp r k (by omega)]
    simp only [Option.bind_some]
    rw [List.drop_eq_getElem_cons hlt, List.map_cons, List.flatten_cons, List.append_assoc, hp xs[k] (List.getElem_mem hlt)]
    simp only [Option.map_some]
    rw [List.take_append_getElem]
theorem each_there {α : Type} {p : List UInt8 → Option (α × List UInt8)} {enc : α → List UInt8} (xs : List α) (hp : ∀ a ∈ xs, ∀ r, p (enc a ++ r) = some (a, r)) (hn : xs.length ≤ 255) : pEach p (UInt8.ofNat xs.length :: (xs.map enc).flatten) = some (xs, []) := by
  have e1 : (UInt8.ofNat xs.length).toNat = xs.length := by rw [ofNat_nat]; omega
  show pTo p _ (UInt8.ofNat xs.length).toNat = _
  rw [e1]
  have := to_there xs hp [] xs.length (Nat.le_refl _)
  rw [List.append_nil, List.take_length, List.drop_length] at this
  exact this
theorem to_back {α : Type} {p : List UInt8 → Option (α × List UInt8)} {enc : α → List UInt8} (hp : ∀ l a r, p l = some (a, r) → l = enc a ++ r) {l : List UInt8} : ∀ {k : Nat} {xs : List α} {q : List UInt8}, pTo p l k = some (xs, q) → l = (xs.map enc).flatten ++ q
  | 0, xs, q, h => by
    rw [pTo] at h
    injection h with h
    injection h with e1 e2
    rw [← e1, ← e2]
    rfl
  | k + 1, xs, q, h => by
    rw [pTo] at h
    cases h1 : pTo p l k with
    | none => rw [h1] at h; cases h
    | some x =>
      rw [h1] at h
      simp only [Option.bind_some] at h
      cases h2 : p x.2 with
      | none => rw [h2] at h; cases h
      | some y =>
        rw [h2] at h
        simp only [Option.map_some] at h
        injection h with h
        injection h with e1 e2
        have b1 := to_back hp (k := k) (xs := x.1) (q := x.2) h1
        have b2 := hp x.2 y.1 y.2 h2
        rw [← e1, ← e2, List.map_append, List.flatten_append]
        rw [b2] at b1
        rw [b1]
        simp
theorem each_back {α : Type} {p : List UInt8 → Option (α × List UInt8)} {enc : α → List UInt8} (hp : ∀ l a r, p l = some (a, r) → l = enc a ++ r) {l : List UInt8} {xs : List α} (h : whole (pEach p l) = some xs) : l = UInt8.ofNat xs.length :: (xs.map enc).flatten := by
  cases l with
  | nil => cases h
  | cons c r =>
    have hw : pTo p r c.toNat = some (xs, []) := by
      unfold whole at h
      split at h
      · rename_i a ha
        injection h with h
        subst h
        exact ha
      · cases h
    have hl := pTo_len hw
    have hb := to_back hp hw
    rw [List.append_nil] at hb
    rw [u8_of (n := xs.length) (c := c) (by rw [hl]; have := byte_lt c; omega), ← hb]
end Go.Proofs.YtcidoodaiimhfaaGreat

