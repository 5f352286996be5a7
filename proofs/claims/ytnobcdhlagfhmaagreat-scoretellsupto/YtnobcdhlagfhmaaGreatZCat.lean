/- A map of scores; what maps.Values hands out; AppendSeq, Grow, Concat of scores. -/
import Derived.Test.YtnobcdhlagfhmaaGreatIChk1
import Derived.Sort.KeysCollected
import Derived.Sort.MapsRangeIn
import Derived.Maps.OwnIn
import Derived.RangeFuncMany
import Derived.RangeFuncLeaves
import Derived.RangeFuncKeeps
import Derived.WalkKit
import Derived.OwnWalkIn
import Derived.TacticsInMore
import Derived.RegionIn
import Derived.LoopNIn
import Derived.LoopIn
import Derived.Shelf.Abstract
import Derived.Shelf.AbstractIn
import Derived.Handy
import Derived.RangeFuncNested
import Derived.RangeFuncBound
import Derived.RangeFuncCalls
import Derived.RangeFuncBox
import Derived.Maps.AppendAt
import Derived.Shelf.RegionOpen
import Derived.Test.YtnobcdhlagfhmaaGreatIChk10
import Derived.Lib.AppendZeros
import Derived.Laws.OwnMore
namespace Go.Proofs.YtnobcdhlagfhmaaGreat.Z
open Go.RowKit Go.Maps Go.Sort Go.Shelf

def encPr (p : Int × ByteArray) : Value := .agg #[.int .i64 p.1, .string p.2]
def datP (p : Int × ByteArray) : DataW Unit := .agg [.lit (.int .i64 p.1), .lit (.string p.2.data.toList)]
theorem datP_inj {p q : Int × ByteArray} (h : datP p = datP q) : p = q := by
  obtain ⟨p1, ⟨⟨p2⟩⟩⟩ := p
  obtain ⟨q1, ⟨⟨q2⟩⟩⟩ := q
  simp [datP] at h
  simp [h]
def pairElem (v : Value) : Option (DataW Unit × List MemPlace) :=
  match v with
  | .agg cs => match cs.toList with
    | [.int .i64 a, .string b] => some (datP (a, b), [])
    | _ => none
  | _ => none
theorem pairElem_enc (p : Int × ByteArray) : pairElem (encPr p) = some (datP p, []) := rfl
theorem pairElem_inv {v : Value} {z : DataW Unit × List MemPlace} (h : pairElem v = some z) : ∃ p, v = encPr p ∧ z = (datP p, []) := by
  unfold pairElem at h
  split at h
  · rename_i cs
    split at h
    · rename_i a b hc
      refine ⟨(a, b), ?_, (Option.some.inj h).symm⟩
      have : cs = #[.int .i64 a, .string b] := by
        apply Array.toList_inj.1
        rw [hc]
      rw [this]; rfl
    · cases h
  · cases h
/-- the pair's second is what the map has by its first -/
def ValP (D0 : DataW Unit) (q : List UInt8 × (Int × ByteArray)) : Prop := ∀ zd, D0.atKey (.string q.1) zd = datP q.2
def AllP (D0 : DataW Unit) (ps : List (List UInt8 × (Int × ByteArray))) : Prop := (ps.map (·.1)).Nodup ∧ ps.length ≤ Maps.size D0 ∧ (∀ x, x ∈ ps.map (·.1) ↔ has D0 (.string x) = true) ∧ ∀ p ∈ ps, ValP D0 p
def PartP (D0 : DataW Unit) (ps : List (List UInt8 × (Int × ByteArray))) : Prop := (ps.map (·.1)).Nodup ∧ (∀ x ∈ ps.map (·.1), has D0 (.string x) = true) ∧ ∀ p ∈ ps, ValP D0 p
theorem keyedS : Keyed Tryz.prog 9 := string_keyed Tryz.underlying9

set_option maxRecDepth 100000 in
set_option maxHeartbeats 1000000 in
theorem values1P_in (F : Fence) (n : Nat) (h8 : F.fn 62) (hro : F.round = none) (hn : 1 ≤ n) (l Bm b nn : Nat) (D0 : DataW Unit) (J Jx : List (Int × ByteArray) → World → Prop)
    (hY : ∀ pre x W, J pre W → pre.length < Maps.size D0 → YieldAt F (n - 1) Tryz.prog l #[encPr x] W fun e W' =>
      (e = .returned (.bool true) ∧ J (pre ++ [x]) W' ∧ KeepsWalks W W') ∨ (e = .returned (.bool false) ∧ Jx (pre ++ [x]) W'))
    (W : World) (hJ : AbidesFrom W.heap.size J) (hm : W.cell? ⟨Bm, 0, none⟩ = some (.map (some b))) (hown : W.ownsMap Tryz.prog 9 pairElem b nn D0) (h0 : J [] W) :
    CallsIn F n Tryz.prog 62 #[.func (.yield l) #[] #[], .pointer (some ⟨Bm, 0, none⟩)] W fun e W' => (∃ v, e = .returned v) ∧
      ((∃ xs, (∃ ps, AllP D0 ps ∧ xs = ps.map (·.2)) ∧ J xs W') ∨ (∃ pre, (∃ ps, PartP D0 ps ∧ pre = ps.map (·.2)) ∧ Jx pre W')) := by
  refine callsIn_of_wp Tryz.func62 rfl h8 ?_ hro
  simp only [Tryz.ntmps62, List.size_toArray, List.length_cons, List.length_nil, Nat.reduceAdd, Nat.reduceSub, Array.replicate_succ, Array.replicate_zero, List.push_toArray, List.append_toArray, List.nil_append, List.cons_append]
  gi_wp2_with (first
    | (gi_at_range; refine wpListIn_range_own _ rfl _ 65 rfl 9 36 keyedS Tryz.underlying65 _ b nn _ rfl hown ?_; intro w0 hrg0 hg0 hs0)
    | gi_in)
  go_frame
  gi_loopw [4] (fun _ wr => ∃ (left : Lit → Bool) (cnt : Nat) (ps : List (List UInt8 × (Int × ByteArray))), wr.ranges Tryz.prog 9 pairElem b W.heap.size nn D0 left cnt ∧ ps.length + cnt ≤ Maps.size D0 ∧ Collected D0 left (ps.map (·.1)) ∧ (∀ p ∈ ps, ValP D0 p) ∧ J (ps.map (·.2)) wr)
    (fun _ wr => wr.rangeLeft b W.heap.size)
  case atStart =>
    exact ⟨_, _, [], hrg0, by simp, Collected.start D0, by simp, hJ [] W w0 none h0 hg0 (fun r e => by cases e)⟩
  case round =>
    obtain ⟨left, cnt, ps, hrg, hcs, hC, hV, hJs⟩ := hrel
    gi_wp2_with (first
      | (gi_at_next; refine wpListIn_next_ranges _ rfl _ rfl 9 keyedS pairElem encStr (fun c : Int × ByteArray => Value.agg #[.int .i64 c.1, .string c.2]) (fun key kl hk => by obtain ⟨x, hx, _⟩ := Maps.keyOf_str Tryz.underlying9 hk; exact ⟨x, hx⟩) (fun v y hv => by obtain ⟨c, rfl, _⟩ := pairElem_inv hv; exact ⟨c, rfl⟩) b W.heap.size nn _ _ _ rfl hrg ?_ ?_)
      | gi_in)
    · intro hc0 hl0
      gi_wp2
      go_end0
      exact ⟨⟨_, rfl⟩, .inl ⟨_, ⟨ps, ⟨hC.1, by omega, fun x => by rw [hC.2 x, hl0]; simp, hV⟩, rfl⟩, hJs⟩⟩
    · intro x c1 c2 kl yd yp w2 cnt2 hkey hlk hv hat hrg2 hlt hg2 hs2 hen
      obtain ⟨x', ex, rfl, _⟩ := Maps.keyOf_str Tryz.underlying9 hkey
      obtain rfl : x = x' := encStr_inj ex
      obtain ⟨c', ec, ez⟩ := pairElem_inv hv
      obtain rfl : (c1, c2) = c' := by
        obtain ⟨d1, d2⟩ := c'
        simp [encPr] at ec
        simp [ec]
      obtain rfl : yd = datP (c1, c2) := (Prod.mk.inj ez).1
      have hJ1 : J (ps.map (·.2)) w2 := hJ _ wr w2 (some W.heap.size) hJs hg2 (fun r e => by cases e; exact ⟨Nat.le_refl _, hrg.iter_walk⟩)
      have hJ2 : J (ps.map (·.2)) (w2.alloc (.cells #[.int .i64 c1, .string c2] 36)) := hJ _ w2 _ none hJ1 (World.grownBy_alloc _ _ _) (fun r e => by cases e)
      have hkw : KeepsWalks w2 (w2.alloc (.cells #[.int .i64 c1, .string c2] 36)) := KeepsWalks.alloc _ _
      obtain ⟨fn, tmps, assign, body, hy, hR⟩ := hY (ps.map (·.2)) (c1, c2) _ hJ2 (by simp; omega)
      dsimp only [encPr] at hy
      clear hs2 hkey hv ec ez ex hs0
      gi_wp2
      refine hR.mono ?_
      have hC2 : Collected D0 (fun z => left z && !z.sameKey (.string x)) ((ps ++ [(x, (c1, c2))]).map (·.1)) := by simpa using hC.step hlk hat
      have hV2 : ∀ p ∈ ps ++ [(x, (c1, c2))], ValP D0 p := fun p hp => (List.mem_append.1 hp).elim (hV p) (fun e => by simp at e; subst e; exact hat)
      rintro e W3 (⟨rfl, hJ3, hk3⟩ | ⟨rfl, hJx3⟩)
      · gi_wp2
        have hrg3 := hrg2.of_walks (hkw.trans hk3)
        go_roundw
        case rel => exact ⟨_, cnt2, ps ++ [(x, (c1, c2))], hrg3, by simp; omega, hC2, hV2, by simpa using hJ3⟩
        case measure => rw [hrg3.left_eq, hrg.left_eq]; exact hlt
      · gi_wp2
        refine bodyPost_ret (results_none rfl _ _ _) rfl ?_
        exact ⟨⟨_, rfl⟩, .inr ⟨_, ⟨ps ++ [(x, (c1, c2))], ⟨hC2.1, fun y hy => ((hC2.2 y).1 hy).1, hV2⟩, by simp⟩, hJx3⟩⟩

set_option maxHeartbeats 1000000 in
/-- maps.Values: the map is boxed; the function value captures the box -/
theorem valuesP_in (F : Fence) (n : Nat) (hf : F.fn 48) (hro : F.round = none) (mb : Option Nat) (w : World) :
    CallsIn F n Tryz.prog 48 #[.map mb] w fun e w' => e = .returned (.func (.func 62) #[] #[.pointer (some ⟨w.heap.size, 0, none⟩)]) ∧ w' = w.alloc (.cells #[.map mb] 65) := by
  refine callsIn_of_wp Tryz.func48 rfl hf ?_ hro
  simp only [Tryz.ntmps48, List.size_toArray, List.length_cons, List.length_nil, Nat.reduceAdd, Nat.reduceSub, Array.replicate_succ, Array.replicate_zero, List.push_toArray, List.append_toArray, List.nil_append, List.cons_append]
  gi_wp2
  go_ret
  exact ⟨rfl, rfl⟩

/-- what maps.Values hands back gives the values -/
theorem valuesP_stops (F : Fence) (n : Nat) (h7 : F.fn 62) (hro : F.round = none) (hn : 1 ≤ n) (Bm b nn : Nat) (D0 : DataW Unit) (w : World) (hBm : Bm < w.heap.size)
    (hm : w.cell? ⟨Bm, 0, none⟩ = some (.map (some b))) (hown : w.ownsMap Tryz.prog 9 pairElem b nn D0) :
    SeqStops F n Tryz.prog 62 #[.pointer (some ⟨Bm, 0, none⟩)] encPr (fun xs => ∃ ps, AllP D0 ps ∧ xs = ps.map (·.2)) (fun pre => ∃ ps, PartP D0 ps ∧ pre = ps.map (·.2)) (Maps.size D0) w := fun l J Jx W hW hJ _ hY h0 => by
  have hown' : W.ownsMap Tryz.prog 9 pairElem b nn D0 := by
    have hbl := hown.lt
    obtain ⟨es, clock, hb, Ft, hs, hD⟩ := hown
    exact ⟨es, clock, (hW.block b hbl).trans hb, Ft, hs, hD⟩
  exact values1P_in F n h7 hro hn l Bm b nn D0 J Jx hY W hJ ((hW.cell (p := ⟨Bm, 0, none⟩) hBm).trans hm) hown' h0
end Go.Proofs.YtnobcdhlagfhmaaGreat.Z
namespace Go.Proofs.YtnobcdhlagfhmaaGreat.Z
open Go.RowKit Go.Maps Go.Sort Go.Shelf
attribute [local go_sem] Oper.semAt_some

def rowP (l : List (Int × ByteArray)) : List Value := (l.map fun p => [Value.int .i64 p.1, Value.string p.2]).flatten
theorem rowP_len (l : List (Int × ByteArray)) : (rowP l).length = l.length * 2 := by
  induction l with
  | nil => rfl
  | cons p r ih => simp [rowP] at ih ⊢; omega
theorem rowP_snoc (l : List (Int × ByteArray)) (p : Int × ByteArray) : rowP (l ++ [p]) = rowP l ++ [.int .i64 p.1, .string p.2] := by simp [rowP]
theorem infoScore : (Tryz.prog.info? 36).map (fun i => (i.zero, i.size, i.bytes)) = some (some (.agg #[.int .i64 0, .string ⟨#[]⟩]), 2, 24) := by kernel_rfl

set_option maxRecDepth 100000 in
set_option maxHeartbeats 2000000 in
theorem appendSeqP_in (F : Fence) (n : Nat) (hf : F.fn 71) (hro : F.round = none) (hn : 3 ≤ n) (gf : Nat) (hF : F.fn gf) (eg : ∀ args w, (callFunc gf args).run Tryz.prog w = .ok (.enter gf args) w) (lb : Array Value)
    (S Sp : List (Int × ByteArray) → Prop) (N : Nat) (hN : N ≤ 2000000) (w : World) (hseq : SeqStops F (n - 1) Tryz.prog gf lb encPr S Sp N w) :
    CallsIn F n Tryz.prog 71 #[.slice none 0 0, .func (.func gf) #[] lb] w fun e W' => ∃ xs v, S xs ∧ e = .returned v ∧ W'.ownsRow w.heap.size 36 2 v xs.length (rowP xs) ∧ Below w.heap.size w W' := by
  have h1 : 1 ≤ n := by omega
  obtain ⟨i0, hi, hz0, hz1, hz2⟩ := info_parts infoScore
  refine callsIn_of_wp_marks Tryz.func71 rfl hf ?_ hro
  simp only [Tryz.ntmps71, List.size_toArray, List.length_cons, List.length_nil, Nat.reduceAdd, Nat.reduceSub, Array.replicate_succ, Array.replicate_zero, List.push_toArray, List.append_toArray, List.nil_append, List.cons_append]
  gi_wp2
  have bO := Boxed.new w 24 (.slice none 0 0)
  have hB0 : Below w.heap.size w (w.alloc (.cells #[.slice none 0 0] 24)) := (Below.refl _ w).alloc (Nat.le_refl _) _
  have hsz : (w.alloc (.cells #[.slice none 0 0] 24)).heap.size = w.heap.size + 1 := by simp
  have hseq' : SeqStops F (n - 1) Tryz.prog gf lb encPr S Sp N (w.alloc (.cells #[.slice none 0 0] 24)) := hseq.later hB0
  obtain ⟨W0, hW0⟩ : ∃ W0, w.alloc (.cells #[.slice none 0 0] 24) = W0 := ⟨_, rfl⟩
  rw [hW0] at bO hB0 hsz hseq' ⊢
  clear hW0
  refine wpIn_rangeFunc_ownH hro h1 (gf := gf) (lb := lb) rfl hF eg (encs := fun x => #[encPr x]) (Kp := KeepsWalks) hseq' walksK_t walksK_b (Below.refl _ _) (fun _ => rfl)
    (fun pre W => (∃ v, Boxed W w.heap.size 24 v ∧ W.ownsRow w.heap.size 36 2 v pre.length (rowP pre) ∧ True) ∧ Below w.heap.size w W)
    (fun _ _ _ => False)
    (OwnFrom.and (Own.from (holdsRow_own w.heap.size w.heap.size 24 36 2 (fun pre : List (Int × ByteArray) => pre.length) (fun pre => rowP pre) (fun _ _ => True)) _) (ownFrom_below (Nat.le_refl _) (by omega)))
    (fun _ _ _ _ _ hs _ _ => hs)
    ⟨⟨_, bO, World.ownsRow_nil _ _ _ _, trivial⟩, hB0⟩
    (fun x a' W => ∃ Bx, w.heap.size < Bx ∧ W.heap[Bx]? = some (.cells #[.int .i64 x.1, .string x.2] 36 (0, 0)) ∧ a' = { tmps := #[.slice none 0 0, .func (.func gf) #[] lb, .pointer (some ⟨w.heap.size, 0, none⟩), undef, .slice none 0 0, .pointer (some ⟨Bx, 0, none⟩), .func (.func gf) #[] lb, .agg #[.int .i64 x.1, .string x.2], undef, undef, undef, undef, undef], defers := [] })
    (fun x a' _ X Y row hs hg hr => by
      obtain ⟨Bx, h1, h2, h3⟩ := hs
      refine ⟨Bx, h1, (hg.block Bx (Array.getElem?_eq_some_iff.1 h2).1 (fun e => ?_)).trans h2, h3⟩
      obtain ⟨_, o, ho, hc⟩ := hr Bx e.symm
      rw [h2] at ho; cases ho; cases hc)
    ?assign ?body ?done ?stop
  case assign =>
    rintro l pre ⟨x1, x2⟩ W K ⟨⟨v, bS1, hr1, -⟩, hB1⟩ hK
    dsimp only [encPr]
    gi_wp2
    exact hK _ _ ((KeepsOthers.alloc _ _).from _) (KeepsWalks.alloc _ _) ⟨⟨v, bS1.alloc _, hr1.alloc _, trivial⟩, hB1.alloc hB1.size _⟩ ⟨W.heap.size, bS1.lt, World.alloc_heap_new W _, rfl⟩
  case body =>
    rintro l pre ⟨x1, x2⟩ a' W hl ⟨r, hr⟩ ⟨⟨v, hv, hrow, -⟩, hB⟩ ⟨Bx, hBx, bX, rfl⟩ hlt
    have hc := hv.cell
    have cx0 : W.cell? ⟨Bx, 0, none⟩ = some (.int .i64 x1) := by rw [cell_of_row W Bx 0 _ _ _ bX]; rfl
    have cx1 : W.cell? ⟨Bx, 1, none⟩ = some (.string x2) := by rw [cell_of_row W Bx 1 _ _ _ bX]; rfl
    gi_wp2_with (gi_at_builtin; refine wpListIn_append_own _ rfl _ _ 24 rfl w.heap.size 36 i0 (.agg #[.int .i64 0, .string ⟨#[]⟩]) 2 24 Tryz.underlying24 hi hz0 hz1 hz2 rfl (by decide) _ _ _ rfl (hrow.alloc _) ⟨W.heap.size, 0, none⟩ 1 1 [.int .i64 x1, .string x2] rfl rfl (fun j u hj => by match j, hj with | 0, hj => (simp at hj; subst hj; simp [Addr.add]) | 1, hj => (simp at hj; subst hj; simp [Addr.add])) (by simp [Value.oneCell']) (by unfold maxLen; omega) (by omega) (by have := hB.size; simp; omega) ?_; intro v' w1 hown' hgrow _; obtain ⟨g', cap', rfl⟩ := ownsRow_succ hown'; obtain ⟨hv1, hv2, hr2, hk2, hb2⟩ := hv.appended (by decide) hrow hB.size (Nat.le_refl _) hown' hgrow; have hc1 := hv1.cell; have hf1 := hv1.frozen)
    rw [show pre.length + 1 = (pre ++ [(x1, x2)]).length by simp, show rowP pre ++ [.int .i64 x1, .string x2] = rowP (pre ++ [(x1, x2)]) from (rowP_snoc pre (x1, x2)).symm] at hr2
    exact ⟨hk2.from _, hk2.walks, ⟨_, by simpa using hv2, by simpa using hr2⟩, hB.trans (by simpa using hb2)⟩
  case done =>
    rintro D ys W hD hS ⟨⟨v, hv, hrow, -⟩, hB⟩ hK
    have hc := hv.cell
    gi_wp2
    refine ⟨by simp, .inl ⟨_, _, rfl, run_takeDeferred hK, ?_⟩⟩
    exact ⟨_, results_tmp rfl _ _ _, ys, v, hS, rfl, ownsRow_putObj hrow _ hK rfl, hB.trans (belowK_b (w := w) (Nat.le_refl _) W D _ _ (by omega) hK rfl rfl)⟩
  case stop =>
    rintro D c pre W _ _ h _
    exact h.elim
end Go.Proofs.YtnobcdhlagfhmaaGreat.Z
namespace Go.Proofs.YtnobcdhlagfhmaaGreat.Z
open Go.RowKit

theorem run_append_noneP (P : Program) (w : World) (base : Nat) (t ty e : TypeId) (i : TypeInfo) (size : Nat) (ht : P.underlying t = some (.slice e)) (hi : P.info? e = some i)
    (v : Value) (n : Nat) (xs : List Value) (hown : w.ownsRow base e size v n xs) (c : Nat) :
    (Builtin.append_ #[t, t] ty #[v, .slice none 0 c]).run P w = .ok v w := by
  rcases hown.2 with ⟨rfl, rfl⟩ | ⟨g, cap, cur, rfl, _, _, hnc, _⟩
  · simp [Builtin.append_, run_underlying ht, sizeOf, typeInfo, hi, Builtin.lenOf, Builtin.firstCells]
  · simp [Builtin.append_, run_underlying ht, sizeOf, typeInfo, hi, Builtin.lenOf, Builtin.firstCells, hnc, storeCells]
theorem rowP_one (l : List (Int × ByteArray)) : ∀ u ∈ rowP l, u.oneCell' = true := by
  induction l with
  | nil => intro u hu; cases hu
  | cons p r ih =>
    intro u hu
    have e : rowP (p :: r) = .int .i64 p.1 :: .string p.2 :: rowP r := rfl
    rw [e] at hu
    rcases List.mem_cons.1 hu with rfl | hu
    · rfl
    · rcases List.mem_cons.1 hu with rfl | hu
      · rfl
      · exact ih u hu
theorem rowP_at (l : List (Int × ByteArray)) (i : Nat) (h : i < l.length) : (rowP l)[i * 2]? = some (.int .i64 l[i].1) ∧ (rowP l)[i * 2 + 1]? = some (.string l[i].2) := by
  induction l generalizing i with
  | nil => simp at h
  | cons p r ih =>
    have e : rowP (p :: r) = .int .i64 p.1 :: .string p.2 :: rowP r := rfl
    rw [e]
    cases i with
    | zero => exact ⟨rfl, rfl⟩
    | succ i =>
      have := ih i (by simpa using h)
      rw [show (i + 1) * 2 = i * 2 + 1 + 1 by omega]
      simpa using this
theorem pairs_news {w : World} {g o : Nat} {l : List (Int × ByteArray)} (h : ∀ i (hi : i < l.length), w.cell? ⟨g, o + i * 2, none⟩ = some (.int .i64 l[i].1) ∧ w.cell? ⟨g, o + i * 2 + 1, none⟩ = some (.string l[i].2)) : ∀ j u, (rowP l)[j]? = some u → w.cell? ((⟨g, o, none⟩ : Addr).add j) = some u := by
  intro j u hj
  have hjl : j < l.length * 2 := by
    have := (List.getElem?_eq_some_iff.1 hj).1
    rwa [rowP_len] at this
  have e : (⟨g, o, none⟩ : Addr).add j = ⟨g, o + j, none⟩ := by
    unfold Addr.add
    split
    · rename_i h; subst h; rfl
    · rfl
  have hq : j / 2 < l.length := by omega
  obtain ⟨r1, r2⟩ := rowP_at l (j / 2) hq
  obtain ⟨d1, d2⟩ := h (j / 2) hq
  rw [e]
  by_cases hm : j % 2 = 0
  · have e1 : j = j / 2 * 2 := by omega
    rw [← e1] at r1
    rw [show o + j = o + j / 2 * 2 by omega, d1, ← r1, hj]
  · have e1 : j = j / 2 * 2 + 1 := by omega
    rw [← e1] at r2
    rw [show o + j = o + j / 2 * 2 + 1 by omega, d2, ← r2, hj]
/-- append of texts to a row of one's own -/
theorem wpList_append_pairs {w : World} {ops : Array Oper} {rest : List Oper} {o : Oper} {a : Act} {Q : Exit → Act → World → Prop}
    (hg : o.guard = none) (s x : Operand) (hop : o.op = .call { callee := .builtin .append, args := #[s, x], argTypes := #[24, 24] })
    (base : Nat) (v : Value) (n : Nat) (xs : List Value) (hs : a.eval s = v) (hown : w.ownsRow base 36 2 v n xs)
    (ad : Option Addr) (c : Nat) (l : List (Int × ByteArray)) (hx : a.eval x = .slice ad l.length c) (hl : ScoresAt w ad l) (h63 : n + l.length ≤ 2000000) (hbase : base ≤ w.heap.size)
    (hK : ∀ v' w', w'.ownsRow base 36 2 v' (n + l.length) (xs ++ rowP l) → w.grownBy w' v.ownBlock → wpList Tryz.prog ops Q rest (a.put o.dst v') w') :
    wpList Tryz.prog ops Q (o :: rest) a w := by
  obtain ⟨i0, hi, hz0, hz1, hz2⟩ := info_parts infoScore
  refine wpList_plain hg fun K' hK' => ?_
  cases ad with
  | none =>
    obtain rfl : l = [] := by
      rcases hl with h | ⟨g, o, h, _⟩
      · exact h
      · cases h
    have hr := run_append_noneP Tryz.prog w base 24 o.type 36 i0 2 Tryz.underlying24 hi v n xs hown c
    unfold Oper.wp execOp
    simp only [hop, resolve, invoke, builtin, Sem.run_bind, Sem.run_pure, Result.andThen_ok, List.map_toArray, List.map_cons, List.map_nil, hs, hx, List.length_nil, hr]
    exact hK' _ _ (hK v w (by simpa [rowP] using hown) (World.grownBy.refl _ _))
  | some ad =>
    refine wp_append_own (P := Tryz.prog) w s x 24 hop base 36 i0 (.agg #[.int .i64 0, .string ⟨#[]⟩]) 2 24 Tryz.underlying24 hi hz0 hz1 hz2 rfl (by decide) v n xs hs hown ad l.length c (rowP l) hx (by rw [rowP_len]) ?_ (rowP_one l) (by unfold maxLen; omega) (by omega) hbase ?_
    · rcases hl with h | ⟨g, o, h, hc⟩
      · subst h
        intro j u hj
        simp [rowP] at hj
      · injection h with h
        subst h
        exact pairs_news hc
    · intro v' w' h1 h2 _
      exact hK' _ _ (hK v' w' h1 h2)

/-- append of so many noughts to nothing -/
theorem wpList_append_zerosP {w : World} {ops : Array Oper} {rest : List Oper} {o : Oper} {a : Act} {Q : Exit → Act → World → Prop}
    (hg : o.guard = none) (s x : Operand) (hop : o.op = .call { callee := .builtin .append, args := #[s, x], argTypes := #[24, 3] })
    (n : Nat) (hs : a.eval s = .slice none 0 0) (hx : a.eval x = .int .i64 n) (h0 : 0 < n) (hn : n ≤ 2000000)
    (hK : ∀ w' cap, n ≤ cap → w'.ownsRow w.heap.size 36 2 (.slice (some ⟨w.heap.size, 0, none⟩) 0 cap) 0 [] → Below w.heap.size w w' → wpList Tryz.prog ops Q rest (a.put o.dst (.slice (some ⟨w.heap.size, 0, none⟩) n cap)) w') :
    wpList Tryz.prog ops Q (o :: rest) a w := by
  obtain ⟨i0, hi, hz0, hz1, hz2⟩ := info_parts infoScore
  refine wpList_plain hg fun K' hK' => ?_
  have hr := Lib.run_append_nil_zeros (P := Tryz.prog) w 24 3 o.type 36 i0 (.agg #[.int .i64 0, .string ⟨#[]⟩]) .i64 .i64 Tryz.underlying24 Tryz.underlying3 hi hz0 n h0 (by omega) (by omega) (by rw [hz2]; omega)
  unfold Oper.wp execOp
  simp only [hop, resolve, invoke, builtin, Sem.run_bind, Sem.run_pure, Result.andThen_ok, List.map_toArray, List.map_cons, List.map_nil, hs, hx, hr]
  have hge := grownCap_ge w n 0 36
  have hle := grownCap_le_maxLen w n 0 36 (by unfold maxLen; omega)
  generalize grownCap w n 0 36 = cap at *
  refine hK' _ _ (hK _ cap hge ?_ ((Below.refl _ _).drew.alloc (Nat.le_refl _) _))
  have := World.ownsRow_made (base := w.heap.size) (e := 36) (size := 2) w.drew (Builtin.zeroCells (Value.agg #[.int .i64 0, .string ⟨#[]⟩]).cells n ++ Builtin.zeroCells (Value.agg #[.int .i64 0, .string ⟨#[]⟩]).cells (cap - n)) cap (Nat.le_refl _) hle (by
    rw [Array.size_append, size_zeroCells, size_zeroCells]
    have : (Value.agg #[.int .i64 0, .string ⟨#[]⟩]).cells.size = 2 := rfl
    rw [this]
    omega)
  exact this

set_option maxRecDepth 100000 in
set_option maxHeartbeats 1000000 in
theorem growP_any (n : Nat) (w : World) (h0 : 0 < n) (hn : n ≤ 2000000) : Calls Tryz.prog 59 #[.slice none 0 0, .int .i64 n] w fun e w' => ∃ cap, e = .returned (.slice (some ⟨w.heap.size, 0, none⟩) 0 cap) ∧ w'.ownsRow w.heap.size 36 2 (.slice (some ⟨w.heap.size, 0, none⟩) 0 cap) 0 [] ∧ Below w.heap.size w w' := by
  have h1 : ¬ ((n : Nat) : Int) < 0 := by omega
  have h2 : (0 : Int) < ((n : Nat) : Int) := by omega
  go_enter Tryz.func59, Tryz.ntmps59
  go_wp2_with (at_builtin; refine wpList_append_zerosP rfl _ _ rfl n rfl rfl h0 hn ?_)
  intro w' cap hcap hown hb
  have hc0 : (0 : Int) ≤ ((cap : Nat) : Int) := by omega
  go_wp2_with fail
  go_ret
  exact ⟨cap, rfl, hown, hb⟩

set_option maxRecDepth 100000 in
set_option maxHeartbeats 2000000 in
theorem concatP_any (g : Nat) (a1 a2 : Option Addr) (c1 c2 : Nat) (l1 l2 : List (Int × ByteArray)) (w : World) (h0 : w.cell? ⟨g, 0, none⟩ = some (.slice a1 l1.length c1)) (h1 : w.cell? ⟨g, 1, none⟩ = some (.slice a2 l2.length c2))
    (hl1 : ScoresAt w a1 l1) (hl2 : ScoresAt w a2 l2) (hpos : 0 < l1.length + l2.length) (hn : l1.length + l2.length ≤ 2000000) :
    Calls Tryz.prog 46 #[.slice (some ⟨g, 0, none⟩) 2 2] w fun e w' => ∃ v, e = .returned v ∧ w'.ownsRow w.heap.size 36 2 v (l1 ++ l2).length (rowP (l1 ++ l2)) ∧ Below w.heap.size w w' := by
  have hgl : g < w.heap.size := World.block_lt_of_cell? _ _ h0
  have H1 := hide hl1
  have H2 := hide hl2
  clear hl1 hl2
  have HG : Hid (Calls Tryz.prog 59 #[.slice none 0 0, .int .i64 (((l1.length : Nat) : Int) + ((l2.length : Nat) : Int))] w fun e w' => ∃ cap, e = .returned (.slice (some ⟨w.heap.size, 0, none⟩) 0 cap) ∧ w'.ownsRow w.heap.size 36 2 (.slice (some ⟨w.heap.size, 0, none⟩) 0 cap) 0 [] ∧ Below w.heap.size w w') := by
    have hh := growP_any (l1.length + l2.length) w hpos hn
    rw [Int.natCast_add] at hh
    exact hh
  have n1 : ¬ ((l1.length : Nat) : Int) < 0 := by omega
  have n2 : ¬ ((l1.length : Nat) : Int) + ((l2.length : Nat) : Int) < 0 := by omega
  go_enter Tryz.func46, Tryz.ntmps46
  go_wp2_with fail
  refine wp_loop_rounds 3 ?_
  rw [rounds_succ]
  go_wp2_with fail
  rw [rounds_succ]
  go_wp2_with fail
  rw [rounds_succ]
  go_wp2_with fail
  refine HG.out.mono ?_
  rintro e w1 ⟨cap, rfl, hown1, hb1⟩
  have e0 : w1.cell? ⟨g, 0, none⟩ = some (.slice a1 l1.length c1) := (hb1.cell (p := ⟨g, 0, none⟩) hgl).trans h0
  have e1 : w1.cell? ⟨g, 1, none⟩ = some (.slice a2 l2.length c2) := (hb1.cell (p := ⟨g, 1, none⟩) hgl).trans h1
  have hz1 := hb1.size
  go_wp2_with fail
  refine wp_loop_rounds 3 ?_
  rw [rounds_succ]
  go_wp2_with (at_builtin; refine wpList_append_pairs rfl _ _ rfl w.heap.size _ 0 [] rfl hown1 a1 c1 l1 rfl (H1.out.below hb1) (by omega) hz1 ?_)
  intro v2 w2 hown2 hg2
  have hb2 : Below w.heap.size w w2 := hb1.grown hg2 hz1 (fun j hj => (hown1.lt j hj).1)
  have hz2 := hb2.size
  have k0 : w2.cell? ⟨g, 0, none⟩ = some (.slice a1 l1.length c1) := (hb2.cell (p := ⟨g, 0, none⟩) hgl).trans h0
  have k1 : w2.cell? ⟨g, 1, none⟩ = some (.slice a2 l2.length c2) := (hb2.cell (p := ⟨g, 1, none⟩) hgl).trans h1
  go_wp2_with fail
  rw [rounds_succ]
  go_wp2_with (at_builtin; refine wpList_append_pairs rfl _ _ rfl w.heap.size _ _ _ rfl hown2 a2 c2 l2 rfl (H2.out.below hb2) (by omega) hz2 ?_)
  intro v3 w3 hown3 hg3
  have hb3 : Below w.heap.size w w3 := hb2.grown hg3 hz2 (fun j hj => (hown2.lt j hj).1)
  go_wp2_with fail
  rw [rounds_succ]
  go_wp2_with fail
  go_ret
  refine ⟨v3, rfl, ?_, hb3⟩
  simpa [rowP] using hown3
set_option maxRecDepth 100000 in
set_option maxHeartbeats 1000000 in
theorem growP_zero (w : World) : Calls Tryz.prog 59 #[.slice none 0 0, .int .i64 0] w fun e w' => e = .returned (.slice none 0 0) ∧ Below w.heap.size w w' := by
  go_enter Tryz.func59, Tryz.ntmps59
  go_wp2_with fail
  go_ret
  exact ⟨rfl, Below.refl _ _⟩
set_option maxRecDepth 100000 in
set_option maxHeartbeats 2000000 in
/-- nothing, and nothing behind it -/
theorem concatP_none (g : Nat) (a1 a2 : Option Addr) (c1 c2 : Nat) (w : World) (h0 : w.cell? ⟨g, 0, none⟩ = some (.slice a1 0 c1)) (h1 : w.cell? ⟨g, 1, none⟩ = some (.slice a2 0 c2)) :
    Calls Tryz.prog 46 #[.slice (some ⟨g, 0, none⟩) 2 2] w fun e w' => ∃ v, e = .returned v ∧ w'.ownsRow w.heap.size 36 2 v 0 [] ∧ Below w.heap.size w w' := by
  have hgl : g < w.heap.size := World.block_lt_of_cell? _ _ h0
  obtain ⟨i0, hi, hz0, hz1, hz2⟩ := info_parts infoScore
  have HG := hide (growP_zero w)
  go_enter Tryz.func46, Tryz.ntmps46
  go_wp2_with fail
  refine wp_loop_rounds 3 ?_
  rw [rounds_succ]
  go_wp2_with fail
  rw [rounds_succ]
  go_wp2_with fail
  rw [rounds_succ]
  go_wp2_with fail
  refine HG.out.mono ?_
  rintro e w1 ⟨rfl, hb1⟩
  have e0 : w1.cell? ⟨g, 0, none⟩ = some (.slice a1 0 c1) := (hb1.cell (p := ⟨g, 0, none⟩) hgl).trans h0
  have e1 : w1.cell? ⟨g, 1, none⟩ = some (.slice a2 0 c2) := (hb1.cell (p := ⟨g, 1, none⟩) hgl).trans h1
  go_wp2_with fail
  refine wp_loop_rounds 3 ?_
  rw [rounds_succ]
  go_wp2_with (at_builtin; refine wpList_append_pairs rfl _ _ rfl w.heap.size _ 0 [] rfl (World.ownsRow_nil _ _ _ _) a1 c1 [] rfl (.inl rfl) (by simp) hb1.size ?_)
  intro v2 w2 hown2 hg2
  have hb2 : Below w.heap.size w w2 := hb1.grown hg2 hb1.size (fun j hj => by simp [Value.ownBlock] at hj)
  have k0 : w2.cell? ⟨g, 0, none⟩ = some (.slice a1 0 c1) := (hb2.cell (p := ⟨g, 0, none⟩) hgl).trans h0
  have k1 : w2.cell? ⟨g, 1, none⟩ = some (.slice a2 0 c2) := (hb2.cell (p := ⟨g, 1, none⟩) hgl).trans h1
  have hz2 := hb2.size
  have hown2' : w2.ownsRow w.heap.size 36 2 v2 0 [] := hown2
  go_wp2_with fail
  rw [rounds_succ]
  go_wp2_with (at_builtin; refine wpList_append_pairs rfl _ _ rfl w.heap.size _ _ _ rfl hown2' a2 c2 [] rfl (.inl rfl) (by simp) hz2 ?_)
  intro v3 w3 hown3 hg3
  have hb3 : Below w.heap.size w w3 := hb2.grown hg3 hz2 (fun j hj => (hown2'.lt j hj).1)
  go_wp2_with fail
  rw [rounds_succ]
  go_wp2_with fail
  go_ret
  exact ⟨v3, rfl, hown3, hb3⟩
theorem concatP_all (g : Nat) (a1 a2 : Option Addr) (c1 c2 : Nat) (l1 l2 : List (Int × ByteArray)) (w : World) (h0 : w.cell? ⟨g, 0, none⟩ = some (.slice a1 l1.length c1)) (h1 : w.cell? ⟨g, 1, none⟩ = some (.slice a2 l2.length c2))
    (hl1 : ScoresAt w a1 l1) (hl2 : ScoresAt w a2 l2) (hn : l1.length + l2.length ≤ 2000000) :
    Calls Tryz.prog 46 #[.slice (some ⟨g, 0, none⟩) 2 2] w fun e w' => ∃ v, e = .returned v ∧ w'.ownsRow w.heap.size 36 2 v (l1 ++ l2).length (rowP (l1 ++ l2)) ∧ Below w.heap.size w w' := by
  by_cases hp : 0 < l1.length + l2.length
  · exact concatP_any g a1 a2 c1 c2 l1 l2 w h0 h1 hl1 hl2 hp hn
  · obtain rfl : l1 = [] := List.eq_nil_of_length_eq_zero (by omega)
    obtain rfl : l2 = [] := List.eq_nil_of_length_eq_zero (by omega)
    exact concatP_none g a1 a2 c1 c2 w h0 h1
end Go.Proofs.YtnobcdhlagfhmaaGreat.Z
