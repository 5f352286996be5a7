/- Pairs in the order of their fields: slices.SortFunc with together's literal; Collect; SortedFunc. -/
import Derived.Test.YtnobcdhlagfhmaaGreatZCat
import Derived.Test.YtnobcdhlagfhmaaGreatZPl
import Derived.Test.YtnobcdhlagfhmaaGreatIChk7
import Derived.Test.YtnobcdhlagfhmaaGreatShelfZ
import Derived.BigQuiet
import Derived.Deep.RegionHeld3
import Derived.Shelf.SlSortCmp.WholeK
import Derived.Shelf.SlSortCmp.NoneTotal
import Derived.Sort.OwnSorted
import Derived.Handy
namespace Go.Proofs.YtnobcdhlagfhmaaGreat.Z
open Go.RowKit Go.Shelf Go.Lib Go.Sort

def encL (p : Int × ByteArray) : List Value := [.int .i64 p.1, .string p.2]
def cfP (p q : Int × ByteArray) : Int := cmpS p q
theorem ltP (x y : Int × ByteArray) : ltOf cfP x y = true ↔ lessS x y := by
  unfold ltOf cfP
  rw [decide_eq_true_iff]
  exact cmpS_lt _ _
theorem ltP_not (x y : Int × ByteArray) : ltOf cfP x y = false ↔ ¬ lessS x y := by
  rw [← ltP]; simp
theorem swoP : SWO (ltOf cfP) where
  irrefl x := (ltP_not x x).2 (lessS_irrefl _)
  trans x y z h1 h2 := (ltP x z).2 (lessS_trans ((ltP x y).1 h1) ((ltP y z).1 h2))
  ntrans x y z h1 h2 := by
    rw [ltP_not] at *
    intro h3
    rcases lessS_or x y with h | h | h
    · exact h1 h
    · exact h2 (h ▸ h3)
    · exact h2 (lessS_trans h h3)

set_option maxRecDepth 100000 in
set_option maxHeartbeats 1000000 in
theorem togCmp_any (x y : Int × ByteArray) (w : World) : Calls Tryz.prog 49 #[.agg (encL x).toArray, .agg (encL y).toArray] w fun e w' => e = .returned (.int .i64 (cfP x y)) ∧ ∃ k os, w' = grow (w.drewN k) os := by
  unfold encL cfP
  rw [← cmpS_or]
  obtain ⟨x1, x2⟩ := x
  obtain ⟨y1, y2⟩ := y
  have HA : Hid (∀ W, Calls Tryz.prog 51 #[.int .i64 x1, .int .i64 y1] W fun e w' => e = .returned (.int .i64 (cmpN x1 y1)) ∧ w' = W) := fun W => cmpInt_any _ _ W
  have HT : Hid (∀ W, Calls Tryz.prog 52 #[.string x2, .string y2] W fun e w' => e = .returned (.int .i64 (cmpT x2 y2)) ∧ w' = W) := fun W => compare_any _ _ W
  simp only
  generalize cmpN x1 y1 = C1 at *
  generalize cmpT x2 y2 = C2 at *
  go_enter Tryz.func49, Tryz.ntmps49
  go_wp2_with fail
  go_region_held3 (fun w' => w'.cell? ⟨w.heap.size, 0, none⟩ = some (.int .i64 x1) ∧ w'.cell? ⟨w.heap.size, 1, none⟩ = some (.string x2) ∧ w'.cell? ⟨w.heap.size + 1, 0, none⟩ = some (.int .i64 y1) ∧ w'.cell? ⟨w.heap.size + 1, 1, none⟩ = some (.string y2)) (go_keep)
    ((first | (go_at_call 51; refine (HA.out _).mono ?_; rintro e w2 ⟨rfl, rfl⟩) | (go_at_call 52; refine (HT.out _).mono ?_; rintro e w2 ⟨rfl, rfl⟩) | (go_at_call 50; refine (orInt_any _ C1 C2 _ (by go_simp) (by go_simp)).mono ?_; rintro e w2 ⟨rfl, rfl⟩)))
  all_goals
    go_wp2_with fail
    go_ret
    exact ⟨rfl, 1, _, by simp only [alloc_eq_grow, grow_grow, drew_grow]; rfl⟩
theorem isAggP (w : World) : (isAgg 36).run Tryz.prog w = .ok true w := by kernel_rfl
theorem sizeOfP (w : World) : (Go.sizeOf 36).run Tryz.prog w = .ok 2 w := by kernel_rfl
theorem grownBy_sortK {w : World} {g n : Nat} {os : Array Obj} (d : Array (Int × ByteArray)) : w.grownBy (sortWorldK encL 2 w g 0 n d os) (some g) := by
  refine ⟨rfl, rfl, rfl, size_sortWorldK_c _ _ _ _ _ _ _ _, fun k hk hne => ?_⟩
  unfold sortWorldK
  rw [heap_grow_old _ _ (by simpa [putRowK, putRow, mapBlock] using hk)]
  have : g ≠ k := fun e => hne (by rw [e])
  simp [putRowK, putRow, mapBlock, Sort.ahead, Array.getElem?_modify, this]
theorem flat_at (xs : List (Int × ByteArray)) (j : Nat) (hj : j < xs.length * 2) : (rowP xs)[j]? = some (flatK encL 2 xs.toArray)[j]! := by
  have hq : j / 2 < xs.length := by omega
  obtain ⟨r1, r2⟩ := rowP_at xs (j / 2) hq
  have e : (flatK encL 2 xs.toArray)[j]! = (encL xs[j / 2])[j % 2]! := by
    unfold flatK
    rw [getElem!_pos _ j (by simpa using hj)]
    simp [hq]
  rw [e]
  by_cases hm : j % 2 = 0
  · have e1 : j / 2 * 2 = j := by omega
    rw [e1] at r1
    rw [r1, hm]; rfl
  · have e1 : j / 2 * 2 + 1 = j := by omega
    rw [e1] at r2
    rw [r2, show j % 2 = 1 by omega]; rfl
/-- pairs that lie in memory from a block on: they stay as long as that does -/
def PairsFrom (B : Nat) (w : World) (a : Option Addr) (ms : List (Int × ByteArray)) : Prop := ∀ W', (∀ g o u, B ≤ g → w.cell? ⟨g, o, none⟩ = some u → W'.cell? ⟨g, o, none⟩ = some u) → ScoresAt W' a ms
theorem PairsFrom.of {B : Nat} {w : World} {g o : Nat} {ms : List (Int × ByteArray)} (h : ScoresAt w (some ⟨g, o, none⟩) ms) (hB : B ≤ g) : PairsFrom B w (some ⟨g, o, none⟩) ms := fun W' hW => by
  rcases h with h | ⟨g', o', e, hc⟩
  · exact .inl h
  · obtain ⟨rfl, rfl⟩ : g = g' ∧ o = o' := by simpa using e
    exact .inr ⟨g, o, rfl, fun i hi => ⟨hW _ _ _ hB (hc i hi).1, hW _ _ _ hB (hc i hi).2⟩⟩
theorem PairsFrom.mono {B B0 : Nat} {w : World} {a : Option Addr} {ms : List (Int × ByteArray)} (h : PairsFrom B w a ms) (hB : B0 ≤ B) : PairsFrom B0 w a ms := fun W' hW => h W' fun g o u hg => hW g o u (by omega)
theorem PairsFrom.none (B : Nat) (w : World) (a : Option Addr) : PairsFrom B w a [] := fun _ _ => .inl rfl
theorem sortP_any (base g cap : Nat) (xs : List (Int × ByteArray)) (w : World) (hown : w.ownsRow base 36 2 (.slice (some ⟨g, 0, none⟩) xs.length cap) xs.length (rowP xs)) (hn : xs.length ≤ 2000000) :
    Calls Tryz.prog 61 #[.slice (some ⟨g, 0, none⟩) xs.length cap, .func (.func 49) #[] #[]] w fun e w' => e = .returned (.tuple #[]) ∧ ∃ ys : List (Int × ByteArray), ys.Perm xs ∧ ys.Pairwise (fun a b => ¬ lessS b a) ∧ PairsFrom base w' (some ⟨g, 0, none⟩) ys ∧ Below base w w' := by
  have hlt := hown.lt g rfl
  have hH : HoldsK encL 2 w g 0 xs.toArray := by
    intro j hj
    have hj' : j < xs.length * 2 := by simpa using hj
    refine ⟨?_, ?_⟩
    · rw [Nat.zero_add, hown.cellAt j hj', flat_at xs j hj']; rfl
    · rcases hown.2 with ⟨h, _⟩ | ⟨g', cap', cur, h, _, hg, _⟩
      · cases h
      · obtain rfl : g = g' := (by simpa using h : g = g' ∧ cap = cap').1
        simp [World.frozen?, hg]
  have eg : ∀ args w, (callFunc 49 args).run Tryz.prog w = .ok (.enter 49 args) w := enters_of Tryz.func49 (by kernel_rfl) rfl
  have hcon := AnyQ.slices_SortFunc Tryz.laySortScore 2 isAggP sizeOfP encL (fun _ => rfl) (fun x v hv => by simp [encL] at hv; rcases hv with rfl | rfl <;> rfl) cfP swoP 49 #[] g 0 cap xs.toArray w eg (fun _ _ _ _ x y => togCmp_any x y _) hH hlt.2 (by simp; omega)
  refine hcon.mono ?_
  rintro e w' ⟨rfl, d', n, os, hp, hs, rfl⟩
  have hds : d'.size = xs.length := by rw [hp.1]; simp
  refine ⟨rfl, d'.toList, ?_, ?_, ?_, ?_⟩
  · have := hp.2.2
    have e9 : List.take xs.length d'.toList = d'.toList := List.take_of_length_le (by simp [hds])
    simpa [hds, e9] using this
  · rw [List.pairwise_iff_getElem]
    intro i j hi hj hij
    have h1 := hs i j (Nat.zero_le _) hij (by simpa [hds] using hj)
    rw [ltP_not] at h1
    simpa [show i < d'.size by simpa using hi, show j < d'.size by simpa using hj] using h1
  · have hK := holdsK_sortWorldK_c encL 2 w g 0 xs.toArray d' n os hH hlt.2 (by simp [hds])
    refine PairsFrom.of (.inr ⟨g, 0, rfl, fun i hi => ?_⟩) hlt.1
    have hi' : i < d'.size := by simpa using hi
    have c0 := (hK.cell hi' (show 0 < 2 by omega)).1
    have c1 := (hK.cell hi' (show 1 < 2 by omega)).1
    refine ⟨?_, ?_⟩
    · rw [show 0 + i * 2 + 0 = 0 + i * 2 by omega] at c0
      rw [c0]; simp [encL, hi']
    · rw [c1]; simp [encL, hi']
  · exact (Below.refl _ _).grown (grownBy_sortK d') (Nat.le_of_lt (Nat.lt_of_le_of_lt hlt.1 hlt.2)) (fun k hk => by cases hk; exact hlt.1)
theorem sortP_none (a : Option Addr) (cap : Nat) (w : World) : Calls Tryz.prog 61 #[.slice a 0 cap, .func (.func 49) #[] #[]] w fun e w' => e = .returned (.tuple #[]) ∧ w' = w :=
  AnyF.slices_SortFunc_none Tryz.laySortScore a cap _ w

section
variable (gf : Nat) (eg : ∀ args w, (callFunc gf args).run Tryz.prog w = .ok (.enter gf args) w) (lb : Array Value) (S Sp : List (Int × ByteArray) → Prop) (N : Nat) (hN : N ≤ 2000000) (w : World) (hseq : SeqStops Fence.wide 3 Tryz.prog gf lb encPr S Sp N w)
include eg hN hseq
set_option maxRecDepth 100000 in
theorem collectP_any : Calls Tryz.prog 60 #[.func (.func gf) #[] lb] w fun e W' => ∃ xs v, S xs ∧ e = .returned v ∧ W'.ownsRow w.heap.size 36 2 v xs.length (rowP xs) ∧ Below w.heap.size w W' := by
  have HA := hide ((callsIn_wide (n := 4)).1 (appendSeqP_in Fence.wide 4 trivial rfl (by omega) gf trivial eg lb S Sp N hN w hseq))
  go_enter Tryz.func60, Tryz.ntmps60
  go_wp2_with fail
  refine HA.out.mono ?_
  rintro e w1 ⟨xs, v, hS, rfl, hown, hb⟩
  go_wp2_with fail
  go_ret
  exact ⟨xs, v, hS, rfl, hown, hb⟩
set_option maxRecDepth 100000 in
set_option maxHeartbeats 1000000 in
theorem sortedP_any (hS2 : ∀ xs, S xs → xs.length ≤ 2000000) : Calls Tryz.prog 47 #[.func (.func gf) #[] lb, .func (.func 49) #[] #[]] w fun e W' => ∃ (xs ys : List (Int × ByteArray)) (a : Option Addr) (cap : Nat), S xs ∧ ys.Perm xs ∧ ys.Pairwise (fun a b => ¬ lessS b a) ∧ e = .returned (.slice a ys.length cap) ∧ PairsFrom w.heap.size W' a ys ∧ Below w.heap.size w W' := by
  have HA := hide (collectP_any gf eg lb S Sp N hN w hseq)
  have HS := hide hS2
  clear hseq eg hS2
  go_enter Tryz.func47, Tryz.ntmps47
  go_wp2_with fail
  refine HA.out.mono ?_
  rintro e w1 ⟨xs, v, hS, rfl, hown, hb⟩
  have hlen := HS.out xs hS
  rcases hown.2 with ⟨rfl, h0⟩ | ⟨g, cap, cur, rfl, hrest⟩
  · obtain rfl : xs = [] := List.eq_nil_of_length_eq_zero h0
    go_wp2_with fail
    refine (sortP_none _ _ _).mono ?_
    rintro e w2 ⟨rfl, rfl⟩
    go_wp2_with fail
    go_ret
    exact ⟨[], [], none, 0, hS, .refl _, .nil, rfl, PairsFrom.none _ _ _, hb⟩
  · clear hrest
    have HO := hide hown
    clear hown
    go_wp2_with fail
    refine (sortP_any _ g cap xs _ HO.out hlen).mono ?_
    rintro e w2 ⟨rfl, ys, hp, hs, hy, hb2⟩
    go_wp2_with fail
    go_ret
    exact ⟨xs, ys, _, cap, hS, hp, hs, by rw [hp.length_eq]; rfl, hy, hb.trans hb2⟩
end
end Go.Proofs.YtnobcdhlagfhmaaGreat.Z
