/- Pairs in the order of their fields: slices.SortFunc with together's literal; Collect; SortedFunc. -/
import Derived.Test.YtnobcdhlagfhmaaHCat
import Derived.Test.YtnobcdhlagfhmaaSPl
import Derived.Test.YtnobcdhlagfhmaaShelfH
import Derived.Shelf.SlSortCmp.WholeK
import Derived.Shelf.SlSortCmp.NoneTotal
import Derived.Sort.OwnSorted
import Derived.Handy
namespace Go.Proofs.Ytnobcdhlagfhmaa
open Go.RowKit Go.Shelf Go.Lib Go.Sort

def encL (p : ByteArray × ByteArray) : List Value := [.string p.1, .string p.2]
def cfP (p q : ByteArray × ByteArray) : Int := cmpT p.1 q.1
theorem ltP (x y : ByteArray × ByteArray) : ltOf cfP x y = true ↔ lessT x.1 y.1 := by
  unfold ltOf cfP
  rw [decide_eq_true_iff]
  exact cmpT_lt _ _
theorem ltP_not (x y : ByteArray × ByteArray) : ltOf cfP x y = false ↔ ¬ lessT x.1 y.1 := by
  rw [← ltP]; simp
theorem swoP : SWO (ltOf cfP) where
  irrefl x := (ltP_not x x).2 (lessT_irrefl _)
  trans x y z h1 h2 := (ltP x z).2 (lessT_trans ((ltP x y).1 h1) ((ltP y z).1 h2))
  ntrans x y z h1 h2 := by
    rw [ltP_not] at *
    intro h3
    rcases lessT_or x.1 y.1 with h | h | h
    · exact h1 h
    · exact h2 (h ▸ h3)
    · exact h2 (lessT_trans h h3)

set_option maxRecDepth 100000 in
theorem togCmp_any (p q : ByteArray × ByteArray) (W : World) : Calls Try.prog 53 #[.agg (encL p).toArray, .agg (encL q).toArray] W fun e w' => e = .returned (.int .i64 (cfP p q)) ∧ ∃ k os, w' = grow (W.drewN k) os := by
  unfold encL cfP
  go_enter Try.func53, Try.ntmps53
  go_wp2_with fail
  refine (compare_any p.1 q.1 _).mono ?_
  rintro e w' ⟨rfl, rfl⟩
  go_wp2_with fail
  go_ret
  exact ⟨rfl, 0, _, by rw [alloc_eq_grow, alloc_eq_grow, grow_grow]; rfl⟩
theorem isAggP (w : World) : (isAgg 37).run Try.prog w = .ok true w := by kernel_rfl
theorem sizeOfP (w : World) : (Go.sizeOf 37).run Try.prog w = .ok 2 w := by kernel_rfl
theorem grownBy_sortK {w : World} {g n : Nat} {os : Array Obj} (d : Array (ByteArray × ByteArray)) : w.grownBy (sortWorldK encL 2 w g 0 n d os) (some g) := by
  refine ⟨rfl, rfl, rfl, size_sortWorldK_c _ _ _ _ _ _ _ _, fun k hk hne => ?_⟩
  unfold sortWorldK
  rw [heap_grow_old _ _ (by simpa [putRowK, putRow, mapBlock] using hk)]
  have : g ≠ k := fun e => hne (by rw [e])
  simp [putRowK, putRow, mapBlock, Sort.ahead, Array.getElem?_modify, this]
theorem flat_at (xs : List (ByteArray × ByteArray)) (j : Nat) (hj : j < xs.length * 2) : (rowP xs)[j]? = some (flatK encL 2 xs.toArray)[j]! := by
  have hq : j / 2 < xs.length := by omega
  obtain ⟨r1, r2⟩ := rowP_at xs (j / 2) hq
  have e : (flatK encL 2 xs.toArray)[j]! = (encL xs[j / 2])[j % 2]! := by
    unfold flatK
    rw [getElem!_pos _ j (by simpa using hj)]
    simp [hq]
  rw [e]
  by_cases hm : j % 2 = 0
  · have e1 : j / 2 * 2 = j := by omega
    rw [e1] at r1
    rw [r1, hm]; rfl
  · have e1 : j / 2 * 2 + 1 = j := by omega
    rw [e1] at r2
    rw [r2, show j % 2 = 1 by omega]; rfl
/-- pairs that lie in memory from a block on: they stay as long as that does -/
def PairsFrom (B : Nat) (w : World) (a : Option Addr) (ms : List (ByteArray × ByteArray)) : Prop := ∀ W', (∀ g o u, B ≤ g → w.cell? ⟨g, o, none⟩ = some u → W'.cell? ⟨g, o, none⟩ = some u) → PairsAt W' a ms
theorem PairsFrom.of {B : Nat} {w : World} {g o : Nat} {ms : List (ByteArray × ByteArray)} (h : PairsAt w (some ⟨g, o, none⟩) ms) (hB : B ≤ g) : PairsFrom B w (some ⟨g, o, none⟩) ms := fun W' hW => by
  rcases h with h | ⟨g', o', e, hc⟩
  · exact .inl h
  · obtain ⟨rfl, rfl⟩ : g = g' ∧ o = o' := by simpa using e
    exact .inr ⟨g, o, rfl, fun i hi => ⟨hW _ _ _ hB (hc i hi).1, hW _ _ _ hB (hc i hi).2⟩⟩
theorem PairsFrom.mono {B B0 : Nat} {w : World} {a : Option Addr} {ms : List (ByteArray × ByteArray)} (h : PairsFrom B w a ms) (hB : B0 ≤ B) : PairsFrom B0 w a ms := fun W' hW => h W' fun g o u hg => hW g o u (by omega)
theorem PairsFrom.none (B : Nat) (w : World) (a : Option Addr) : PairsFrom B w a [] := fun _ _ => .inl rfl
theorem sortP_any (base g cap : Nat) (xs : List (ByteArray × ByteArray)) (w : World) (hown : w.ownsRow base 37 2 (.slice (some ⟨g, 0, none⟩) xs.length cap) xs.length (rowP xs)) (hn : xs.length ≤ 2000000) :
    Calls Try.prog 73 #[.slice (some ⟨g, 0, none⟩) xs.length cap, .func (.func 53) #[] #[]] w fun e w' => e = .returned (.tuple #[]) ∧ ∃ ys : List (ByteArray × ByteArray), ys.Perm xs ∧ ys.Pairwise (fun a b => ¬ lessT b.1 a.1) ∧ PairsFrom base w' (some ⟨g, 0, none⟩) ys ∧ Below base w w' := by
  have hlt := hown.lt g rfl
  have hH : HoldsK encL 2 w g 0 xs.toArray := by
    intro j hj
    have hj' : j < xs.length * 2 := by simpa using hj
    refine ⟨?_, ?_⟩
    · rw [Nat.zero_add, hown.cellAt j hj', flat_at xs j hj']; rfl
    · rcases hown.2 with ⟨h, _⟩ | ⟨g', cap', cur, h, _, hg, _⟩
      · cases h
      · obtain rfl : g = g' := (by simpa using h : g = g' ∧ cap = cap').1
        simp [World.frozen?, hg]
  have eg : ∀ args w, (callFunc 53 args).run Try.prog w = .ok (.enter 53 args) w := enters_of Try.func53 (by kernel_rfl) rfl
  have hcon := AnyQ.slices_SortFunc Try.laySortPair 2 isAggP sizeOfP encL (fun _ => rfl) (fun x v hv => by simp [encL] at hv; rcases hv with rfl | rfl <;> rfl) cfP swoP 53 #[] g 0 cap xs.toArray w eg (fun _ _ _ _ x y => togCmp_any x y _) hH hlt.2 (by simp; omega)
  refine hcon.mono ?_
  rintro e w' ⟨rfl, d', n, os, hp, hs, rfl⟩
  have hds : d'.size = xs.length := by rw [hp.1]; simp
  refine ⟨rfl, d'.toList, ?_, ?_, ?_, ?_⟩
  · have := hp.2.2
    have e9 : List.take xs.length d'.toList = d'.toList := List.take_of_length_le (by simp [hds])
    simpa [hds, e9] using this
  · rw [List.pairwise_iff_getElem]
    intro i j hi hj hij
    have h1 := hs i j (Nat.zero_le _) hij (by simpa [hds] using hj)
    rw [ltP_not] at h1
    simpa [show i < d'.size by simpa using hi, show j < d'.size by simpa using hj] using h1
  · have hK := holdsK_sortWorldK_c encL 2 w g 0 xs.toArray d' n os hH hlt.2 (by simp [hds])
    refine PairsFrom.of (.inr ⟨g, 0, rfl, fun i hi => ?_⟩) hlt.1
    have hi' : i < d'.size := by simpa using hi
    have c0 := (hK.cell hi' (show 0 < 2 by omega)).1
    have c1 := (hK.cell hi' (show 1 < 2 by omega)).1
    refine ⟨?_, ?_⟩
    · rw [show 0 + i * 2 + 0 = 0 + i * 2 by omega] at c0
      rw [c0]; simp [encL, hi']
    · rw [c1]; simp [encL, hi']
  · exact (Below.refl _ _).grown (grownBy_sortK d') (Nat.le_of_lt (Nat.lt_of_le_of_lt hlt.1 hlt.2)) (fun k hk => by cases hk; exact hlt.1)
theorem sortP_none (a : Option Addr) (cap : Nat) (w : World) : Calls Try.prog 73 #[.slice a 0 cap, .func (.func 53) #[] #[]] w fun e w' => e = .returned (.tuple #[]) ∧ w' = w :=
  AnyF.slices_SortFunc_none Try.laySortPair a cap _ w

section
variable (gf : Nat) (eg : ∀ args w, (callFunc gf args).run Try.prog w = .ok (.enter gf args) w) (lb : Array Value) (S Sp : List (ByteArray × ByteArray) → Prop) (N : Nat) (hN : N ≤ 2000000) (w : World) (hseq : SeqStops Fence.wide 3 Try.prog gf lb encPr S Sp N w)
include eg hN hseq
set_option maxRecDepth 100000 in
theorem collectP_any : Calls Try.prog 72 #[.func (.func gf) #[] lb] w fun e W' => ∃ xs v, S xs ∧ e = .returned v ∧ W'.ownsRow w.heap.size 37 2 v xs.length (rowP xs) ∧ Below w.heap.size w W' := by
  have HA := hide ((callsIn_wide (n := 4)).1 (appendSeqP_in Fence.wide 4 trivial rfl (by omega) gf trivial eg lb S Sp N hN w hseq))
  go_enter Try.func72, Try.ntmps72
  go_wp2_with fail
  refine HA.out.mono ?_
  rintro e w1 ⟨xs, v, hS, rfl, hown, hb⟩
  go_wp2_with fail
  go_ret
  exact ⟨xs, v, hS, rfl, hown, hb⟩
set_option maxRecDepth 100000 in
set_option maxHeartbeats 1000000 in
theorem sortedP_any (hS2 : ∀ xs, S xs → xs.length ≤ 2000000) : Calls Try.prog 51 #[.func (.func gf) #[] lb, .func (.func 53) #[] #[]] w fun e W' => ∃ (xs ys : List (ByteArray × ByteArray)) (a : Option Addr) (cap : Nat), S xs ∧ ys.Perm xs ∧ ys.Pairwise (fun a b => ¬ lessT b.1 a.1) ∧ e = .returned (.slice a ys.length cap) ∧ PairsFrom w.heap.size W' a ys ∧ Below w.heap.size w W' := by
  have HA := hide (collectP_any gf eg lb S Sp N hN w hseq)
  have HS := hide hS2
  clear hseq eg hS2
  go_enter Try.func51, Try.ntmps51
  go_wp2_with fail
  refine HA.out.mono ?_
  rintro e w1 ⟨xs, v, hS, rfl, hown, hb⟩
  have hlen := HS.out xs hS
  rcases hown.2 with ⟨rfl, h0⟩ | ⟨g, cap, cur, rfl, hrest⟩
  · obtain rfl : xs = [] := List.eq_nil_of_length_eq_zero h0
    go_wp2_with fail
    refine (sortP_none _ _ _).mono ?_
    rintro e w2 ⟨rfl, rfl⟩
    go_wp2_with fail
    go_ret
    exact ⟨[], [], none, 0, hS, .refl _, .nil, rfl, PairsFrom.none _ _ _, hb⟩
  · clear hrest
    have HO := hide hown
    clear hown
    go_wp2_with fail
    refine (sortP_any _ g cap xs _ HO.out hlen).mono ?_
    rintro e w2 ⟨rfl, ys, hp, hs, hy, hb2⟩
    go_wp2_with fail
    go_ret
    exact ⟨xs, ys, _, cap, hS, hp, hs, by rw [hp.length_eq]; rfl, hy, hb.trans hb2⟩
end
end Go.Proofs.Ytnobcdhlagfhmaa
