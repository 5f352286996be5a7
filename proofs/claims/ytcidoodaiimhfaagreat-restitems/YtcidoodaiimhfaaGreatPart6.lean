/- Part 6 of what the proof leans on: Set6, Set8, SBeg, RSom, RNo, RAs, RLst5, YRow, YDef, YCopy, YChk, YOwn. -/
import Derived.Test.YtcidoodaiimhfaaGreatPart4
import Derived.Test.YtcidoodaiimhfaaGreatPart5
import Derived.Maps.Own
import Derived.Maps.OwnOps
import Derived.Maps.Views
import Derived.StringKeys
import Derived.Maps.OwnSet
import Derived.Maps.RangeWalk
import Derived.Sort.KeysCollected
import Derived.Handy
import Derived.Deep.RegionLaw
import Derived.Test.YtcidoodaiimhfaaGreatPart1
import Derived.Test.YtcidoodaiimhfaaGreatPart3
import Derived.Test.YtcidoodaiimhfaaGreatPart2
import Derived.Lib.AppendZeros
import Derived.Laws.OwnMore
import Derived.BigQuiet
import Derived.Laws.Cover1
import Derived.Sort.Walk0
/- Many sets as plain data; how often each member is met; items that lie side by side. -/
namespace Go.Proofs.YtcidoodaiimhfaaGreat
open Go.RowKit Go.Maps Go.WideMaps

/-- how many of the lists have it -/
def cntL (ls : List (List ByteArray)) (s : ByteArray) : Nat := (ls.filter fun l => hasT l s).length
theorem bytesL_append (l m : List ByteArray) : bytesL (l ++ m) = bytesL l ++ bytesL m := by simp [bytesL]
theorem count_bytes (l : List ByteArray) (s : ByteArray) (h : l.Nodup) : (bytesL l).count s.data.toList = if hasT l s = true then 1 else 0 := by
  induction l with
  | nil => rfl
  | cons a r ih =>
    have hn := List.nodup_cons.1 h
    have e : bytesL (a :: r) = a.data.toList :: bytesL r := rfl
    rw [e, List.count_cons, ih hn.2]
    by_cases hs : a = s
    · subst hs
      have h1 : hasT r a = false := hasT_not hn.1
      have h2 : hasT (a :: r) a = true := hasT_iff.2 (by simp)
      simp [h1, h2]
    · have hs' : ¬ a.data.toList = s.data.toList := fun e => hs (bytes_eq e)
      have h3 : hasT (a :: r) s = hasT r s := by
        rw [Bool.eq_iff_iff, hasT_iff, hasT_iff, List.mem_cons]
        exact ⟨fun h => by rcases h with h | h; exact absurd h.symm hs; exact h, .inr⟩
      have h4 : (a.data.toList == s.data.toList) = false := by rw [beq_eq_false_iff_ne]; exact hs'
      rw [h3, h4]
      rfl
theorem count_flat (ls : List (List ByteArray)) (s : ByteArray) (h : ∀ l ∈ ls, Rises l) : (bytesL ls.flatten).count s.data.toList = cntL ls s := by
  induction ls with
  | nil => rfl
  | cons l r ih =>
    rw [List.flatten_cons, bytesL_append, List.count_append, ih (fun m hm => h m (by simp [hm])), count_bytes l s (h l (by simp)).nodup, cntL, cntL, List.filter_cons]
    split
    · simp only [List.length_cons]
      omega
    · omega
/-- the members that are asked for, rising -/
def thoseL (p : ByteArray → Nat → Bool) (ls : List (List ByteArray)) : List ByteArray := addT [] (ls.flatten.filter fun s => p s (cntL ls s))
theorem thoseL_rises (p : ByteArray → Nat → Bool) (ls : List (List ByteArray)) : Rises (thoseL p ls) := rises_addT List.Pairwise.nil
theorem mem_thoseL {p : ByteArray → Nat → Bool} {ls : List (List ByteArray)} {s : ByteArray} : s ∈ thoseL p ls ↔ (∃ l ∈ ls, s ∈ l) ∧ p s (cntL ls s) = true := by
  unfold thoseL
  rw [mem_addT, List.mem_filter, List.mem_flatten]
  simp
/-- the error of items, one by one -/
def setsE : List Itm → Int
  | [] => 0
  | x :: r => if asI x 3 ≠ 0 then asI x 3 else setsE r
def setsF (xs : List Itm) : Int := if xs = [] then 1 else setsE xs
theorem setsE_all {xs : List Itm} (h : ∀ x ∈ xs, asI x 3 = 0) : setsE xs = 0 := by
  induction xs with
  | nil => rfl
  | cons x r ih => rw [setsE, if_neg (by simp [h x (by simp)])]; exact ih (fun y hy => h y (by simp [hy]))
theorem setsE_at {xs : List Itm} {k : Nat} (hk : k < xs.length) (h : ∀ x ∈ xs.take k, asI x 3 = 0) (he : asI xs[k] 3 ≠ 0) : setsE xs = asI xs[k] 3 := by
  induction xs generalizing k with
  | nil => simp at hk
  | cons x r ih =>
    cases k with
    | zero => rw [setsE]; exact if_pos he
    | succ k =>
      rw [setsE, if_neg (by simp [h x (by simp)])]
      exact ih (by simpa using hk) (fun y hy => h y (by simp [hy])) he
/-- what the map holds: of each member how often it was met -/
structure Counts (D : DataW Unit) (ms : List ByteArray) : Prop where
  at_ : ∀ x : List UInt8, D.atKey (.string x) (.lit (.int .i64 0)) = .lit (.int .i64 (((bytesL ms).count x : Nat) : Int))
  has_ : ∀ x : List UInt8, Maps.has D (.string x) = true ↔ x ∈ bytesL ms
theorem Counts.start : Counts (.map []) [] := ⟨fun _ => rfl, fun x => by simp [Maps.has, bytesL]⟩
theorem Counts.step {D : DataW Unit} {ms : List ByteArray} (h : Counts D ms) (hm : IsMap D) (s : ByteArray) : Counts (D.put (.string s.data.toList) (.lit (.int .i64 (((bytesL ms).count s.data.toList : Nat) + 1 : Int)))) (ms ++ [s]) := by
  have e : bytesL (ms ++ [s]) = bytesL ms ++ [s.data.toList] := by simp [bytesL]
  refine ⟨fun x => ?_, fun x => ?_⟩
  · rw [e, List.count_append]
    by_cases hx : x = s.data.toList
    · subst hx
      rw [atKey_put_same hm (k := .string _) (by trivial)]
      simp
    · rw [atKey_put_other (by intro e; injection e with e; exact hx e), h.at_]
      have : [s.data.toList].count x = 0 := List.count_eq_zero.2 (by simpa using hx)
      rw [this]
      simp
  · rw [e, List.mem_append]
    by_cases hx : x = s.data.toList
    · subst hx
      rw [has_put_same hm (k := .string _) (by trivial)]
      simp
    · rw [has_put_other (by intro e; injection e with e; exact hx e), h.has_]
      simp [hx]
/-- items that lie side by side -/
def ItemsAt (w : World) (a : Option Addr) (xs : List Itm) : Prop :=
  xs = [] ∨ ∃ g o, a = some ⟨g, o, none⟩ ∧ ∀ i (h : i < xs.length), ∃ a1 c1 a2 c2 a3 c3, (w.cell? ⟨g, o + i * 5, none⟩ = some (.int .i64 xs[i].k) ∧ w.cell? ⟨g, o + i * 5 + 1, none⟩ = some (.string xs[i].t) ∧ w.cell? ⟨g, o + i * 5 + 2, none⟩ = some (.slice a1 xs[i].l.length c1) ∧ w.cell? ⟨g, o + i * 5 + 3, none⟩ = some (.slice a2 xs[i].p.length c2) ∧ w.cell? ⟨g, o + i * 5 + 4, none⟩ = some (.slice a3 xs[i].s.length c3)) ∧ ItemIs w (.agg #[.int .i64 xs[i].k, .string xs[i].t, .slice a1 xs[i].l.length c1, .slice a2 xs[i].p.length c2, .slice a3 xs[i].s.length c3]) xs[i]
theorem ItemsAt.below {w w' : World} {a : Option Addr} {xs : List Itm} (h : ItemsAt w a xs) (hb : Below w.heap.size w w') : ItemsAt w' a xs := by
  have hm : ∀ g o v, w.cell? ⟨g, o, none⟩ = some v → w'.cell? ⟨g, o, none⟩ = some v := fun g o v hv => (hb.cell (p := ⟨g, o, none⟩) (World.block_lt_of_cell? _ _ hv)).trans hv
  rcases h with h | ⟨g, o, ha, hc⟩
  · exact .inl h
  · refine .inr ⟨g, o, ha, fun i hi => ?_⟩
    obtain ⟨a1, c1, a2, c2, a3, c3, ⟨h0, h1, h2, h3, h4⟩, h5⟩ := hc i hi
    exact ⟨a1, c1, a2, c2, a3, c3, ⟨hm _ _ _ h0, hm _ _ _ h1, hm _ _ _ h2, hm _ _ _ h3, hm _ _ _ h4⟩, h5.below hb⟩
theorem lawS : Keyed Tryz.prog 9 := string_keyed Tryz.underlying9
theorem zeroI (w : World) : (zeroValue 3).run Tryz.prog w = .ok (.int .i64 0) w := by kernel_rfl
theorem keyS {s : ByteArray} (h : s.size ≤ maxLen) : keyOf Tryz.prog 9 (.string s) = some (.string s.data.toList) := keyOf_string_mk Tryz.underlying9 h
/-- of what was met, what is asked for -/
def askL (p : ByteArray → Nat → Bool) (ls : List (List ByteArray)) (ss : List (List UInt8)) : List ByteArray := (textsL ss).filter fun s => p s (cntL ls s)
theorem askL_len (p : ByteArray → Nat → Bool) (ls : List (List ByteArray)) (ss : List (List UInt8)) : (askL p ls ss).length ≤ ss.length := by
  have := List.length_filter_le (fun s => p s (cntL ls s)) (textsL ss)
  simpa [askL, textsL] using this
theorem askL_yes {p : ByteArray → Nat → Bool} {ls : List (List ByteArray)} {ss : List (List UInt8)} {s : ByteArray} {x : List UInt8} (hx : s = ⟨x.toArray⟩) (h : p s (cntL ls s) = true) : askL p ls (ss ++ [x]) = askL p ls ss ++ [s] := by
  subst hx
  simp [askL, textsL, h]
theorem askL_no {p : ByteArray → Nat → Bool} {ls : List (List ByteArray)} {ss : List (List UInt8)} {s : ByteArray} {x : List UInt8} (hx : s = ⟨x.toArray⟩) (h : p s (cntL ls s) = false) : askL p ls (ss ++ [x]) = askL p ls ss := by
  subst hx
  simp [askL, textsL, h]
theorem askL_end {p : ByteArray → Nat → Bool} {ls : List (List ByteArray)} {ss : List (List UInt8)} (hn : ss.Nodup) (hm : ∀ x, x ∈ ss ↔ x ∈ bytesL ls.flatten) : sortL (askL p ls ss) = thoseL p ls := by
  have hnd : (askL p ls ss).Nodup := by
    refine List.Pairwise.filter _ ?_
    unfold textsL
    rw [List.pairwise_map]
    exact hn.imp (fun h e => h (by injection e with e; exact List.toArray_inj e))
  obtain ⟨h1, h2⟩ := sorted_once hnd
  refine rises_unique h1 (thoseL_rises p ls) (fun x => ?_)
  rw [sortL, h2, askL, List.mem_filter, mem_textsL, hm, mem_bytesL, mem_thoseL]
  have e : (⟨x.data.toList.toArray⟩ : ByteArray) = x := by cases x; simp
  rw [e, List.mem_flatten]
/-- a range over the map is under way -/
structure RngAt (p : ByteArray → Nat → Bool) (ls : List (List ByteArray)) (w : World) (r N : Nat) (D : DataW Unit) (left : Lit → Bool) (cnt : Nat) (ss : List (List UInt8)) (v : Value) (wr : World) : Prop where
  rg : wr.ranges Tryz.prog 9 (plainElem Tryz.prog 3) w.heap.size r N D left cnt
  ct : ss.length + cnt ≤ Maps.size D
  rw : wr.ownsRow r 9 1 v (askL p ls ss).length (strs (askL p ls ss))
  cl : Collected D left ss
  bl : Below w.heap.size w wr
theorem grown_none {w w' : World} (h : Below w.heap.size w w') : w.grownBy w' none := ⟨h.os, h.tape, h.output, h.size, fun j hj _ => h.block j hj⟩
/-- so many items have been looked at -/
structure ThoseAt (xs : List Itm) (w : World) (k : Nat) (D : DataW Unit) (wr : World) : Prop where
  g : ∀ x ∈ xs.take k, asI x 3 = 0
  d : Counts D ((xs.take k).map Itm.l).flatten
  o : wr.ownsMap Tryz.prog 9 (plainElem Tryz.prog 3) w.heap.size ((xs.take k).map Itm.l).flatten.length D
  b : Below w.heap.size w wr
end Go.Proofs.YtcidoodaiimhfaaGreat

/- WALKS of Meet, Join, Less of sets. -/
namespace Go.Proofs.YtcidoodaiimhfaaGreat
open Go.RowKit Go.Maps Go.WideMaps Go.Sort

theorem flat_small : ∀ ys : List Itm, (∀ y ∈ ys, y.l.length ≤ 24) → (ys.map Itm.l).flatten.length ≤ 24 * ys.length
  | [], _ => by simp
  | y :: r, h => by
    have h1 := h y (by simp)
    have h2 := flat_small r (fun z hz => h z (by simp [hz]))
    simp only [List.map_cons, List.flatten_cons, List.length_append, List.length_cons]
    omega
set_option maxRecDepth 100000 in
set_option maxHeartbeats 4000000 in
theorem thoseM_some (b : Nat) (p : ByteArray → Nat → Bool) (a : Option Addr) (c : Nat) (xs : List Itm) (w : World) (hx : ItemsAt w a xs) (hne : xs ≠ []) (hxl : xs.length ≤ 1500000) (HSUM : Hid ((xs.map Itm.l).flatten.length ≤ 1500000 ∨ xs.length ≤ 50000)) (SE : Int) (TL : List ByteArray) (HS : Hid (SE = setsE xs ∧ TL = if setsE xs = 0 then thoseL p (xs.map Itm.l) else []))
    (HA : Hid (∀ W m (n : Nat), Below w.heap.size w W → Calls Tryz.prog 103 #[.string m, .int .i64 n, .pointer (some ⟨b, 0, none⟩)] W fun e w' => e = .returned (.bool (p m n)) ∧ Below W.heap.size W w')) :
    Calls Tryz.prog 102 #[.slice a xs.length c, .func (.func 103) #[] #[.pointer (some ⟨b, 0, none⟩)]] w fun e w' => ∃ a' cap, e = .returned (.tuple #[.slice a' TL.length cap, .int .i64 SE]) ∧ (∀ W, (∀ g o u, w.heap.size ≤ g → w'.cell? ⟨g, o, none⟩ = some u → w'.frozen? ⟨g, o, none⟩ = false → W.cell? ⟨g, o, none⟩ = some u) → TextsAt W a' TL) ∧ Below w.heap.size w w' := by
  have hmm := @run_makeMap Tryz.prog
  obtain ⟨g, o, rfl, hc⟩ := hx.resolve_left hne
  have HX := hide hc
  have hpos : 0 < xs.length := List.length_pos_iff.2 hne
  have hpos' : ¬ ((xs.length : Nat) : Int) = 0 := by omega
  clear hc hne hx
  go_enter Tryz.func102, Tryz.ntmps102
  go_wp2_with fail
  have hwW : Hid (Below w.heap.size w (w.alloc (.map #[] 0))) := (Below.refl _ w).alloc (Nat.le_refl _) _
  go_loopw [21] (fun i wr => ∃ (k : Nat) (D : DataW Unit), k ≤ xs.length ∧ i = .int .i64 k ∧ ThoseAt xs w k D wr) (fun i _ => xs.length - (intOf i).toNat)
  case atStart => exact ⟨0, .map [], by omega, rfl, ⟨fun x hx => by simp at hx, Counts.start, World.ownsMap_made _ _ _ _, hwW.out⟩⟩
  case round =>
    obtain ⟨k, D, hk, rfl, hTA⟩ := hrel
    have HG := hide hTA.g
    have HD := hide hTA.d
    have hown := hTA.o
    have hnx := hTA.b
    clear hTA
    have hzr := hnx.size
    by_cases hlt : k < xs.length
    · have hlt' : ((k : Nat) : Int) < ((xs.length : Nat) : Int) := by omega
      obtain ⟨a1, c1, a2, c2, a3, c3, ⟨e0, e1, e2, e3, e4⟩, hI⟩ := HX.out k hlt
      have HI := hide hI
      have HBC : Hid (∀ g o v, w.cell? ⟨g, o, none⟩ = some v → wr.cell? ⟨g, o, none⟩ = some v) := fun g o _ hv => (hnx.cell (p := ⟨g, o, none⟩) (World.block_lt_of_cell? _ _ hv)).trans hv
      have d0 := HBC.out _ _ _ e0
      have d1 := HBC.out _ _ _ e1
      have d2 := HBC.out _ _ _ e2
      have d3 := HBC.out _ _ _ e3
      have d4 := HBC.out _ _ _ e4
      have HC : Hid (∀ W, Below w.heap.size w W → Calls Tryz.prog 85 #[.agg #[.int .i64 xs[k].k, .string xs[k].t, .slice a1 xs[k].l.length c1, .slice a2 xs[k].p.length c2, .slice a3 xs[k].s.length c3], .int .i64 3] W fun e w' => e = .returned (.int .i64 (asI xs[k] 3)) ∧ Below W.heap.size W w') := fun W hW => common_any _ xs[k] 3 W (HI.out.below hW)
      have HTK : Hid (xs.take (k + 1) = xs.take k ++ [xs[k]]) := List.take_succ_eq_append_getElem hlt
      obtain ⟨X, hX⟩ : ∃ X, X = xs[k] := ⟨_, rfl⟩
      rw [← hX] at d0 d1 d2 d3 d4 HC HTK HI
      have HXX := hide hX
      clear hX e0 e1 e2 e3 e4 hI HBC
      have hXL : Hid (asI X 3 = 0 → Rises X.l ∧ X.l.length ≤ 24 ∧ (∀ t ∈ X.l, t.size ≤ 60)) := asI_set
      obtain ⟨hT1, hTn⟩ : TextsAt w a1 X.l ∧ X.l.length ≤ 281474976710656 := by
        obtain ⟨⟨b1, q1, b2, q2, b3, q3, e, t1, -, -⟩, -, -, -, -, hl1, -, -⟩ := HI.out
        injection e with e
        have e' := congrArg (fun z => z[2]?) e
        simp at e'
        obtain ⟨rfl, _⟩ := e'
        exact ⟨t1, hl1⟩
      have HT1 := hide hT1
      clear hT1 HI
      generalize hXl : X.l = L at *
      have HXl := hide hXl
      clear hXl
      obtain ⟨E, hE⟩ : ∃ E, E = asI X 3 := ⟨_, rfl⟩
      rw [← hE] at HC hXL
      have HE := hide hE
      clear hE
      go_wp2_with fail
      refine (HC.out _ (hnx.alloc hnx.size _)).mono ?_
      rintro e w1 ⟨rfl, hb1⟩
      have hB1 : Below w.heap.size w w1 := (hnx.alloc hnx.size _).trans (hb1.mono (by simp; omega))
      have hg1 : wr.grownBy w1 none := (World.grownBy_alloc wr _ none).trans ⟨hb1.os, hb1.tape, hb1.output, hb1.size, fun j hj _ => hb1.block j hj⟩
      have hown1 := hown.kept hg1 (by simp)
      have bx2 : w1.cell? ⟨wr.heap.size, 2, none⟩ = some (.slice a1 L.length c1) := (hb1.cell (p := ⟨wr.heap.size, 2, none⟩) (by simp)).trans (by simp [go_sem])
      clear hown hg1 hb1 d0 d1 d2 d3 d4 HC hwW hmm
      by_cases h0 : E = 0
      · obtain ⟨hri, h24, h60⟩ := hXL.out h0
        have HZ : Hid (∀ t ∈ L, t.size ≤ maxLen) := fun t ht => by have := h60 t ht; unfold maxLen; omega
        have HE0 : Hid (asI X 3 = 0) := HE.out.symm.trans h0
        subst h0
        clear hXL h60 HE
        have hpl : ((xs.take k).map Itm.l).flatten.length + L.length ≤ 1500000 := by
          rcases HSUM.out with hsum | hx5
          rotate_left
          · have h1 := flat_small (xs.take k) (fun y hy => (asI_set (HG.out y hy)).2.1)
            rw [List.length_take] at h1
            omega
          have h1 : ((xs.take (k + 1)).map Itm.l).flatten.length ≤ (xs.map Itm.l).flatten.length := by
            have e : xs.map Itm.l = (xs.take (k + 1)).map Itm.l ++ (xs.drop (k + 1)).map Itm.l := by rw [← List.map_append, List.take_append_drop]
            rw [e, List.flatten_append, List.length_append]
            omega
          rw [HTK.out, List.map_append, List.flatten_append, List.length_append] at h1
          have e9 : (([X].map Itm.l).flatten).length = L.length := by simp [HXl.out]
          rw [e9] at h1
          omega
        generalize hpre : ((xs.take k).map Itm.l).flatten = pre at *
        have HPRE := hide hpre
        clear hpre
        go_wp2_with fail
        go_loopw [33] (fun i wr => ∃ (m : Nat) (D : DataW Unit), m ≤ L.length ∧ i = .int .i64 m ∧ Hid (Counts D (pre ++ L.take m)) ∧ wr.ownsMap Tryz.prog 9 (plainElem Tryz.prog 3) w.heap.size (pre.length + m) D ∧ Below w.heap.size w wr) (fun i _ => L.length - (intOf i).toNat)
        case atStart => exact ⟨0, D, by omega, rfl, by rw [List.take_zero, List.append_nil]; exact HD.out, hown1, hB1⟩
        case round =>
          clear hown1 bx2 HD D
          obtain ⟨m, D, hm, rfl, HD, hown, hnx2⟩ := hrel
          by_cases hmt : m < L.length
          · have hmt' : ((m : Nat) : Int) < ((L.length : Nat) : Int) := by omega
            obtain ⟨g1, o1, rfl, hcs⟩ : ∃ g o, a1 = some ⟨g, o, none⟩ ∧ ∀ i (h : i < L.length), w.cell? ⟨g, o + i, none⟩ = some (.string L[i]) := by
              rcases HT1.out with h | h
              · subst h; simp at hmt
              · exact h
            have d0 : wr.cell? ⟨g1, o1 + m, none⟩ = some (.string L[m]) := (hnx2.cell (p := ⟨g1, o1 + m, none⟩) (World.block_lt_of_cell? _ _ (hcs m hmt))).trans (hcs m hmt)
            have HTM : Hid (pre ++ L.take (m + 1) = (pre ++ L.take m) ++ [L[m]]) := by rw [Hid, List.take_succ_eq_append_getElem hmt, List.append_assoc]
            have hsz : L[m].size ≤ maxLen := HZ.out _ (List.getElem_mem _)
            obtain ⟨s, hs⟩ : ∃ s, s = L[m] := ⟨_, rfl⟩
            rw [← hs] at d0 HTM hsz
            have hkey := keyS hsz
            clear hs hcs
            go_wp2_with (first
              | (at_lookup; refine wpList_lookup_own_int _ rfl _ _ 175 rfl 9 3 .i64 lawS Tryz.underlying175 Tryz.underlying3 (zeroI _) w.heap.size (pre.length + m) D rfl hown _ _ rfl hkey ?_; intro cc hat hwc)
              | (at_mapUpdate; refine wpList_mapUpdate_own _ rfl _ _ _ 175 rfl 9 3 lawS Tryz.underlying175 _ w.heap.size (pre.length + m) D rfl hown (by unfold maxLen; omega) _ _ _ rfl rfl hkey _ [] (plainElem_int Tryz.underlying3 (wrap64_wf _)) ?_))
            intro w5 hown5 hg5
            have B5 := hnx2.grown hg5 hnx2.size (fun j hj => by cases hj; exact Nat.le_refl _)
            have hcc : cc = (((bytesL (pre ++ L.take m)).count s.data.toList : Nat) : Int) := by
              have h1 := HD.out.at_ s.data.toList
              rw [h1] at hat
              injection hat with hat
              injection hat with _ hat
              exact hat.symm
            have hcl : (bytesL (pre ++ L.take m)).count s.data.toList ≤ 1500000 := by
              have h1 := List.count_le_length (a := s.data.toList) (l := bytesL (pre ++ L.take m))
              rw [bytesL_len, List.length_append, List.length_take] at h1
              omega
            have HC5 : Hid (Counts (D.put (.string s.data.toList) (.lit (.int .i64 (wrap64 (cc + 1))))) (pre ++ L.take (m + 1))) := by
              rw [HTM.out]
              have e : wrap64 (cc + 1) = (((bytesL (pre ++ L.take m)).count s.data.toList : Nat) : Int) + 1 := by rw [hcc]; unfold wrap64; omega
              rw [e]
              exact HD.out.step hown.isMap s
            clear hown hat hwc hcc hcl d0 hkey hg5
            go_wp2_with fail
            go_roundw
            case rel => exact ⟨m + 1, _, by omega, by go_num, HC5, hown5, B5⟩
            case measure => simp [intOf]; omega
          · have hge : ¬ ((m : Nat) : Int) < ((L.length : Nat) : Int) := by omega
            obtain rfl : m = L.length := by omega
            go_wp2_with fail
            have e2 : ((xs.take (k + 1)).map Itm.l).flatten = pre ++ L := by
              rw [HTK.out, List.map_append, List.flatten_append, HPRE.out]
              simp [HXl.out]
            refine ⟨⟨_, _, _, _, _, .int .i64 (((k : Nat) : Int) + 1), ⟨k + 1, by omega, by simp, D, ?_, ?_, ?_, hnx2⟩, rfl, rfl, rfl, rfl, rfl, rfl⟩, by simp [intOf]; omega⟩
            · rw [HTK.out]
              intro x hx
              rcases List.mem_append.1 hx with hx | hx
              · exact HG.out x hx
              · rw [List.mem_singleton.1 hx]; exact HE0.out
            · rw [e2]
              have := HD.out
              rw [List.take_length] at this
              exact this
            · rw [e2, List.length_append]
              exact hown
      · have h0' : (E == 0) = false := by rw [beq_eq_false_iff_ne]; exact h0
        go_wp2_with fail
        have hse : setsE xs = E := by
          have h1 := setsE_at hlt HG.out (by rw [← HXX.out, ← HE.out]; exact h0)
          rw [h1, ← HXX.out, ← HE.out]
        refine bodyPost_ret (v := .tuple #[.slice none 0 0, .int .i64 E]) (by simp [results, Tryz.results102, go_sem]) rfl ?_
        have e1 : SE = E := HS.out.1.trans hse
        have e2 : TL = [] := by rw [HS.out.2, hse, if_neg h0]
        rw [e1, e2]
        exact ⟨none, 0, rfl, fun W _ => .inl rfl, hB1⟩
    · have hge : ¬ ((k : Nat) : Int) < ((xs.length : Nat) : Int) := by omega
      obtain rfl : k = xs.length := by omega
      rw [List.take_length] at HG HD hown
      have hSE : SE = 0 := HS.out.1.trans (setsE_all HG.out)
      have HTL : Hid (TL = thoseL p (xs.map Itm.l)) := by rw [Hid, HS.out.2, if_pos (setsE_all HG.out)]
      have HR : Hid (∀ l ∈ xs.map Itm.l, Rises l) := fun l hl => by
        obtain ⟨y, hy, rfl⟩ := List.mem_map.1 hl
        exact (asI_set (HG.out y hy)).1
      have HZL : Hid (∀ l ∈ xs.map Itm.l, ∀ t ∈ l, t.size ≤ 60) := fun l hl => by
        obtain ⟨y, hy, rfl⟩ := List.mem_map.1 hl
        exact (asI_set (HG.out y hy)).2.2
      subst hSE
      have hsum : (xs.map Itm.l).flatten.length ≤ 1500000 := by
        rcases HSUM.out with hsum | hx5
        · exact hsum
        · have h1 := flat_small xs (fun y hy => (asI_set (HG.out y hy)).2.1)
          omega
      clear HS HG HX hwW hmm HSUM
      generalize hls : xs.map Itm.l = ls at *
      clear hls
      obtain ⟨i0, hi, hz0, hz1, hz2⟩ := info_parts infoStr
      have hsD : Maps.size D ≤ 1500000 := Nat.le_trans hown.size_le hsum
      have hmbl := hown.lt
      generalize ls.flatten.length = NN at *
      obtain ⟨wq, hwq⟩ : ∃ wq, wq = wr := ⟨wr, rfl⟩
      subst hwq
      go_wp2_with (at_range; refine wpList_range_own _ rfl _ 175 rfl 9 3 lawS Tryz.underlying175 _ w.heap.size NN D rfl hown ?_; intro w0 hrg0 hg0 hs0)
      have B0 : Below w.heap.size w w0 := hnx.grown hg0 hnx.size (fun j hj => by cases hj)
      clear hg0 hs0
      go_loopw [12] (fun v wr => ∃ left cnt ss, RngAt p ls w wq.heap.size NN D left cnt ss v wr) (fun _ wr => wr.rangeLeft w.heap.size wq.heap.size)
      case atStart => exact ⟨_, _, [], ⟨hrg0, by simp, World.ownsRow_nil _ _ _ _, Collected.start D, B0⟩⟩
      case round =>
        clear hrg0 B0
        obtain ⟨left, cnt, ss, hR⟩ := hrel
        have hrg := hR.rg
        have HRR := hide hR
        clear hR
        go_wp2_with (at_next; refine wpList_next_ranges _ rfl _ rfl 9 lawS (plainElem Tryz.prog 3) encStr (Value.int .i64) (fun key kl hk => by obtain ⟨x, hx, _⟩ := Maps.keyOf_str Tryz.underlying9 hk; exact ⟨x, hx⟩) (fun v y hv => by obtain ⟨c, rfl, _⟩ := plainElem_int_inv Tryz.underlying3 hv; exact ⟨c, rfl⟩) w.heap.size wq.heap.size NN _ _ _ rfl hrg ?_ ?_)
        · intro hc0 hl0
          obtain ⟨av, cv, hav⟩ := slice_own HRR.out.rw
          subst hav
          have hal := askL_len p ls ss
          have hct := HRR.out.ct
          have HSO := hide (sort_any av cv (askL p ls ss) w wr HRR.out.bl (fun hne => by
            obtain ⟨gg, cc, e, _, _⟩ := HRR.out.rw.form (List.length_pos_iff.2 hne)
            injection e with e1 e2 e3
            subst e1
            exact ⟨gg, rfl, own_low HRR.out.rw (Nat.le_of_lt hmbl)⟩) (by omega))
          have HEND : Hid (sortL (askL p ls ss) = TL) := by
            rw [Hid, HTL.out]
            refine askL_end HRR.out.cl.1 (fun x => ?_)
            rw [HRR.out.cl.2 x, hl0, ← HD.out.has_]
            simp
          have hTll : TL.length = (askL p ls ss).length := by rw [← HEND.out, sortL_len]
          clear hrg HRR
          generalize askL p ls ss = ML at *
          go_wp2_with fail
          refine HSO.out.mono ?_
          rintro e w4 ⟨rfl, hb4, hr4⟩
          have HR4 := hide hr4
          clear hr4 HSO
          go_wp2_with fail
          refine bodyPost_ret (v := .tuple #[.slice av ML.length cv, .int .i64 0]) (by simp [results, Tryz.results102, go_sem]) rfl ⟨av, cv, by rw [hTll], fun W hW => ?_, hb4⟩
          by_cases hML : ML = []
          · refine .inl (List.eq_nil_of_length_eq_zero ?_)
            rw [hTll, hML]
            rfl
          · obtain ⟨gg, rfl, ho⟩ := HR4.out hML
            rw [HEND.out, ← hTll] at ho
            exact texts_ownF ho hW
        · intro x c kl yd yp w2 cnt2 hkey hlk hv hat hrg2 hlt2 hg2 hs2 hen
          obtain ⟨x', ex, rfl, hxl⟩ := Maps.keyOf_str Tryz.underlying9 hkey
          obtain rfl : x = x' := encStr_inj ex
          have hcn : c = ((cntL ls ⟨x.toArray⟩ : Nat) : Int) := by
            obtain ⟨a, h1, h2, _⟩ := plainElem_int_inv Tryz.underlying3 hv
            injection h1 with _ h1
            have h3 := hat (.lit (.int .i64 0))
            rw [HD.out.at_ x] at h3
            have h4 := count_flat ls ⟨x.toArray⟩ HR.out
            rw [show (ByteArray.mk x.toArray).data.toList = x by simp] at h4
            rw [h4] at h3
            injection h2 with h2 _
            rw [h2] at h3
            injection h3 with h3
            injection h3 with _ h3
            rw [h1, ← h3]
          obtain ⟨s, hs⟩ : ∃ s : ByteArray, s = ⟨x.toArray⟩ := ⟨_, rfl⟩
          have HXS := hide hs
          have exs : (encStr x : Value) = .string s := by rw [hs]
          rw [← hs] at hcn
          obtain ⟨n, hn⟩ : ∃ n, n = cntL ls s := ⟨_, rfl⟩
          rw [← hn] at hcn
          have HN := hide hn
          subst hcn
          have hrow2 := HRR.out.rw.kept hg2 (Or.inr (row_ne_iter HRR.out.rw hrg).symm)
          have hbl := HRR.out.bl
          have hzb := hbl.size
          have hrl := hrg.lt
          have hB2 : Below w.heap.size w w2 := hbl.grown hg2 hbl.size (fun j hj => by cases hj; exact Nat.le_of_lt hmbl)
          have hzz2 := hg2.size
          have hct := HRR.out.ct
          have hal := askL_len p ls ss
          have HCS := hide (HRR.out.cl.step hlk hat)
          have hleft := hrg.left_eq
          have HLE := hide hleft
          rw [exs] at hen
          clear hs hn hs2 hrg HRR hkey hv hat ex hg2 hlk hleft hbl
          rw [exs]
          clear exs hxl
          go_wp2_with fail
          refine (HA.out w2 s n hB2).mono ?_
          rintro e w3 ⟨rfl, hb3⟩
          have hrg3 := hrg2.kept (grown_none hb3) (by simp) (by simp)
          have hrow3 := (Kept.of_below hb3 (fun _ => False)).owns hrow2 (fun _ _ e => e)
          have hB3 : Below w.heap.size w w3 := hB2.trans (hb3.mono hB2.size)
          have hz3 := hb3.size
          clear hrg2 hrow2 hb3 hB2
          cases hp : p s n with
          | true =>
            have HP : Hid (p s (cntL ls s) = true) := by rw [Hid, ← HN.out]; exact hp
            clear hp
            go_wp2_with (at_builtin; refine wpList_append_own _ rfl _ _ 24 rfl wq.heap.size 9 i0 (.string ⟨#[]⟩) 1 16 Tryz.underlying24 hi hz0 hz1 hz2 rfl (by decide) _ _ _ rfl (hrow3.alloc _) ⟨w3.heap.size, 0, none⟩ 1 1 [.string s] rfl rfl ?c1 ?c2 ?c3 ?c4 ?c5 ?_)
            case c1 =>
              intro j u hj
              match j, hj with
              | 0, hj => simp at hj; subst hj; simp [Addr.add]
            case c2 => intro u hu; simp at hu; subst hu; rfl
            case c3 => unfold maxLen; omega
            case c4 => omega
            case c5 => simp; omega
            intro v' w4 hown4 hg4 _
            have hrg4 := (hrg3.alloc (.cells #[.string s] 9)).kept hg4 (row_ne_low hrow3 hmbl) (row_ne_iter hrow3 hrg3)
            have hB4 : Below w.heap.size w w4 := (hB3.alloc hB3.size _).grown hg4 (by simp; omega) (fun j hj => by have := (hrow3.lt j hj).1; omega)
            have HR4 : Hid (RngAt p ls w wq.heap.size NN D (fun z => left z && !z.sameKey (.string x)) cnt2 (ss ++ [x]) v' w4) := ⟨hrg4, by rw [List.length_append]; simp; omega, by rw [askL_yes HXS.out HP.out, List.length_append]; simpa [strs] using hown4, HCS.out, hB4⟩
            have hle4 := hrg4.left_eq
            clear hrow3 hrg3 hown4 hg4 hB3 hrg4 hB4
            go_wp2_with fail
            go_roundw
            case rel => exact ⟨_, cnt2, ss ++ [x], HR4.out⟩
            case measure => rw [hle4, HLE.out]; exact hlt2
          | false =>
            have HP : Hid (p s (cntL ls s) = false) := by rw [Hid, ← HN.out]; exact hp
            clear hp
            have hrow4 := hrow3
            rw [← askL_no (ss := ss) HXS.out HP.out] at hrow4
            have HR4 := hide (RngAt.mk (ss := ss ++ [x]) hrg3 (by rw [List.length_append]; simp; omega) hrow4 HCS.out hB3)
            clear hrow4
            have hle4 := hrg3.left_eq
            clear hrow3 hrg3 hB3
            go_wp2_with fail
            go_roundw
            case rel => exact ⟨_, cnt2, ss ++ [x], HR4.out⟩
            case measure => rw [hle4, HLE.out]; exact hlt2
set_option maxRecDepth 100000 in
set_option maxHeartbeats 4000000 in
theorem thoseJ_some (p : ByteArray → Nat → Bool) (a : Option Addr) (c : Nat) (xs : List Itm) (w : World) (hx : ItemsAt w a xs) (hne : xs ≠ []) (hxl : xs.length ≤ 1500000) (HSUM : Hid ((xs.map Itm.l).flatten.length ≤ 1500000 ∨ xs.length ≤ 50000)) (SE : Int) (TL : List ByteArray) (HS : Hid (SE = setsE xs ∧ TL = if setsE xs = 0 then thoseL p (xs.map Itm.l) else []))
    (HA : Hid (∀ W m (n : Nat), Below w.heap.size w W → Calls Tryz.prog 104 #[.string m, .int .i64 n] W fun e w' => e = .returned (.bool (p m n)) ∧ Below W.heap.size W w')) :
    Calls Tryz.prog 102 #[.slice a xs.length c, .func (.func 104) #[] #[]] w fun e w' => ∃ a' cap, e = .returned (.tuple #[.slice a' TL.length cap, .int .i64 SE]) ∧ (∀ W, (∀ g o u, w.heap.size ≤ g → w'.cell? ⟨g, o, none⟩ = some u → w'.frozen? ⟨g, o, none⟩ = false → W.cell? ⟨g, o, none⟩ = some u) → TextsAt W a' TL) ∧ Below w.heap.size w w' := by
  have hmm := @run_makeMap Tryz.prog
  obtain ⟨g, o, rfl, hc⟩ := hx.resolve_left hne
  have HX := hide hc
  have hpos : 0 < xs.length := List.length_pos_iff.2 hne
  have hpos' : ¬ ((xs.length : Nat) : Int) = 0 := by omega
  clear hc hne hx
  go_enter Tryz.func102, Tryz.ntmps102
  go_wp2_with fail
  have hwW : Hid (Below w.heap.size w (w.alloc (.map #[] 0))) := (Below.refl _ w).alloc (Nat.le_refl _) _
  go_loopw [21] (fun i wr => ∃ (k : Nat) (D : DataW Unit), k ≤ xs.length ∧ i = .int .i64 k ∧ ThoseAt xs w k D wr) (fun i _ => xs.length - (intOf i).toNat)
  case atStart => exact ⟨0, .map [], by omega, rfl, ⟨fun x hx => by simp at hx, Counts.start, World.ownsMap_made _ _ _ _, hwW.out⟩⟩
  case round =>
    obtain ⟨k, D, hk, rfl, hTA⟩ := hrel
    have HG := hide hTA.g
    have HD := hide hTA.d
    have hown := hTA.o
    have hnx := hTA.b
    clear hTA
    have hzr := hnx.size
    by_cases hlt : k < xs.length
    · have hlt' : ((k : Nat) : Int) < ((xs.length : Nat) : Int) := by omega
      obtain ⟨a1, c1, a2, c2, a3, c3, ⟨e0, e1, e2, e3, e4⟩, hI⟩ := HX.out k hlt
      have HI := hide hI
      have HBC : Hid (∀ g o v, w.cell? ⟨g, o, none⟩ = some v → wr.cell? ⟨g, o, none⟩ = some v) := fun g o _ hv => (hnx.cell (p := ⟨g, o, none⟩) (World.block_lt_of_cell? _ _ hv)).trans hv
      have d0 := HBC.out _ _ _ e0
      have d1 := HBC.out _ _ _ e1
      have d2 := HBC.out _ _ _ e2
      have d3 := HBC.out _ _ _ e3
      have d4 := HBC.out _ _ _ e4
      have HC : Hid (∀ W, Below w.heap.size w W → Calls Tryz.prog 85 #[.agg #[.int .i64 xs[k].k, .string xs[k].t, .slice a1 xs[k].l.length c1, .slice a2 xs[k].p.length c2, .slice a3 xs[k].s.length c3], .int .i64 3] W fun e w' => e = .returned (.int .i64 (asI xs[k] 3)) ∧ Below W.heap.size W w') := fun W hW => common_any _ xs[k] 3 W (HI.out.below hW)
      have HTK : Hid (xs.take (k + 1) = xs.take k ++ [xs[k]]) := List.take_succ_eq_append_getElem hlt
      obtain ⟨X, hX⟩ : ∃ X, X = xs[k] := ⟨_, rfl⟩
      rw [← hX] at d0 d1 d2 d3 d4 HC HTK HI
      have HXX := hide hX
      clear hX e0 e1 e2 e3 e4 hI HBC
      have hXL : Hid (asI X 3 = 0 → Rises X.l ∧ X.l.length ≤ 24 ∧ (∀ t ∈ X.l, t.size ≤ 60)) := asI_set
      obtain ⟨hT1, hTn⟩ : TextsAt w a1 X.l ∧ X.l.length ≤ 281474976710656 := by
        obtain ⟨⟨b1, q1, b2, q2, b3, q3, e, t1, -, -⟩, -, -, -, -, hl1, -, -⟩ := HI.out
        injection e with e
        have e' := congrArg (fun z => z[2]?) e
        simp at e'
        obtain ⟨rfl, _⟩ := e'
        exact ⟨t1, hl1⟩
      have HT1 := hide hT1
      clear hT1 HI
      generalize hXl : X.l = L at *
      have HXl := hide hXl
      clear hXl
      obtain ⟨E, hE⟩ : ∃ E, E = asI X 3 := ⟨_, rfl⟩
      rw [← hE] at HC hXL
      have HE := hide hE
      clear hE
      go_wp2_with fail
      refine (HC.out _ (hnx.alloc hnx.size _)).mono ?_
      rintro e w1 ⟨rfl, hb1⟩
      have hB1 : Below w.heap.size w w1 := (hnx.alloc hnx.size _).trans (hb1.mono (by simp; omega))
      have hg1 : wr.grownBy w1 none := (World.grownBy_alloc wr _ none).trans ⟨hb1.os, hb1.tape, hb1.output, hb1.size, fun j hj _ => hb1.block j hj⟩
      have hown1 := hown.kept hg1 (by simp)
      have bx2 : w1.cell? ⟨wr.heap.size, 2, none⟩ = some (.slice a1 L.length c1) := (hb1.cell (p := ⟨wr.heap.size, 2, none⟩) (by simp)).trans (by simp [go_sem])
      clear hown hg1 hb1 d0 d1 d2 d3 d4 HC hwW hmm
      by_cases h0 : E = 0
      · obtain ⟨hri, h24, h60⟩ := hXL.out h0
        have HZ : Hid (∀ t ∈ L, t.size ≤ maxLen) := fun t ht => by have := h60 t ht; unfold maxLen; omega
        have HE0 : Hid (asI X 3 = 0) := HE.out.symm.trans h0
        subst h0
        clear hXL h60 HE
        have hpl : ((xs.take k).map Itm.l).flatten.length + L.length ≤ 1500000 := by
          rcases HSUM.out with hsum | hx5
          rotate_left
          · have h1 := flat_small (xs.take k) (fun y hy => (asI_set (HG.out y hy)).2.1)
            rw [List.length_take] at h1
            omega
          have h1 : ((xs.take (k + 1)).map Itm.l).flatten.length ≤ (xs.map Itm.l).flatten.length := by
            have e : xs.map Itm.l = (xs.take (k + 1)).map Itm.l ++ (xs.drop (k + 1)).map Itm.l := by rw [← List.map_append, List.take_append_drop]
            rw [e, List.flatten_append, List.length_append]
            omega
          rw [HTK.out, List.map_append, List.flatten_append, List.length_append] at h1
          have e9 : (([X].map Itm.l).flatten).length = L.length := by simp [HXl.out]
          rw [e9] at h1
          omega
        generalize hpre : ((xs.take k).map Itm.l).flatten = pre at *
        have HPRE := hide hpre
        clear hpre
        go_wp2_with fail
        go_loopw [33] (fun i wr => ∃ (m : Nat) (D : DataW Unit), m ≤ L.length ∧ i = .int .i64 m ∧ Hid (Counts D (pre ++ L.take m)) ∧ wr.ownsMap Tryz.prog 9 (plainElem Tryz.prog 3) w.heap.size (pre.length + m) D ∧ Below w.heap.size w wr) (fun i _ => L.length - (intOf i).toNat)
        case atStart => exact ⟨0, D, by omega, rfl, by rw [List.take_zero, List.append_nil]; exact HD.out, hown1, hB1⟩
        case round =>
          clear hown1 bx2 HD D
          obtain ⟨m, D, hm, rfl, HD, hown, hnx2⟩ := hrel
          by_cases hmt : m < L.length
          · have hmt' : ((m : Nat) : Int) < ((L.length : Nat) : Int) := by omega
            obtain ⟨g1, o1, rfl, hcs⟩ : ∃ g o, a1 = some ⟨g, o, none⟩ ∧ ∀ i (h : i < L.length), w.cell? ⟨g, o + i, none⟩ = some (.string L[i]) := by
              rcases HT1.out with h | h
              · subst h; simp at hmt
              · exact h
            have d0 : wr.cell? ⟨g1, o1 + m, none⟩ = some (.string L[m]) := (hnx2.cell (p := ⟨g1, o1 + m, none⟩) (World.block_lt_of_cell? _ _ (hcs m hmt))).trans (hcs m hmt)
            have HTM : Hid (pre ++ L.take (m + 1) = (pre ++ L.take m) ++ [L[m]]) := by rw [Hid, List.take_succ_eq_append_getElem hmt, List.append_assoc]
            have hsz : L[m].size ≤ maxLen := HZ.out _ (List.getElem_mem _)
            obtain ⟨s, hs⟩ : ∃ s, s = L[m] := ⟨_, rfl⟩
            rw [← hs] at d0 HTM hsz
            have hkey := keyS hsz
            clear hs hcs
            go_wp2_with (first
              | (at_lookup; refine wpList_lookup_own_int _ rfl _ _ 175 rfl 9 3 .i64 lawS Tryz.underlying175 Tryz.underlying3 (zeroI _) w.heap.size (pre.length + m) D rfl hown _ _ rfl hkey ?_; intro cc hat hwc)
              | (at_mapUpdate; refine wpList_mapUpdate_own _ rfl _ _ _ 175 rfl 9 3 lawS Tryz.underlying175 _ w.heap.size (pre.length + m) D rfl hown (by unfold maxLen; omega) _ _ _ rfl rfl hkey _ [] (plainElem_int Tryz.underlying3 (wrap64_wf _)) ?_))
            intro w5 hown5 hg5
            have B5 := hnx2.grown hg5 hnx2.size (fun j hj => by cases hj; exact Nat.le_refl _)
            have hcc : cc = (((bytesL (pre ++ L.take m)).count s.data.toList : Nat) : Int) := by
              have h1 := HD.out.at_ s.data.toList
              rw [h1] at hat
              injection hat with hat
              injection hat with _ hat
              exact hat.symm
            have hcl : (bytesL (pre ++ L.take m)).count s.data.toList ≤ 1500000 := by
              have h1 := List.count_le_length (a := s.data.toList) (l := bytesL (pre ++ L.take m))
              rw [bytesL_len, List.length_append, List.length_take] at h1
              omega
            have HC5 : Hid (Counts (D.put (.string s.data.toList) (.lit (.int .i64 (wrap64 (cc + 1))))) (pre ++ L.take (m + 1))) := by
              rw [HTM.out]
              have e : wrap64 (cc + 1) = (((bytesL (pre ++ L.take m)).count s.data.toList : Nat) : Int) + 1 := by rw [hcc]; unfold wrap64; omega
              rw [e]
              exact HD.out.step hown.isMap s
            clear hown hat hwc hcc hcl d0 hkey hg5
            go_wp2_with fail
            go_roundw
            case rel => exact ⟨m + 1, _, by omega, by go_num, HC5, hown5, B5⟩
            case measure => simp [intOf]; omega
          · have hge : ¬ ((m : Nat) : Int) < ((L.length : Nat) : Int) := by omega
            obtain rfl : m = L.length := by omega
            go_wp2_with fail
            have e2 : ((xs.take (k + 1)).map Itm.l).flatten = pre ++ L := by
              rw [HTK.out, List.map_append, List.flatten_append, HPRE.out]
              simp [HXl.out]
            refine ⟨⟨_, _, _, _, _, .int .i64 (((k : Nat) : Int) + 1), ⟨k + 1, by omega, by simp, D, ?_, ?_, ?_, hnx2⟩, rfl, rfl, rfl, rfl, rfl, rfl⟩, by simp [intOf]; omega⟩
            · rw [HTK.out]
              intro x hx
              rcases List.mem_append.1 hx with hx | hx
              · exact HG.out x hx
              · rw [List.mem_singleton.1 hx]; exact HE0.out
            · rw [e2]
              have := HD.out
              rw [List.take_length] at this
              exact this
            · rw [e2, List.length_append]
              exact hown
      · have h0' : (E == 0) = false := by rw [beq_eq_false_iff_ne]; exact h0
        go_wp2_with fail
        have hse : setsE xs = E := by
          have h1 := setsE_at hlt HG.out (by rw [← HXX.out, ← HE.out]; exact h0)
          rw [h1, ← HXX.out, ← HE.out]
        refine bodyPost_ret (v := .tuple #[.slice none 0 0, .int .i64 E]) (by simp [results, Tryz.results102, go_sem]) rfl ?_
        have e1 : SE = E := HS.out.1.trans hse
        have e2 : TL = [] := by rw [HS.out.2, hse, if_neg h0]
        rw [e1, e2]
        exact ⟨none, 0, rfl, fun W _ => .inl rfl, hB1⟩
    · have hge : ¬ ((k : Nat) : Int) < ((xs.length : Nat) : Int) := by omega
      obtain rfl : k = xs.length := by omega
      rw [List.take_length] at HG HD hown
      have hSE : SE = 0 := HS.out.1.trans (setsE_all HG.out)
      have HTL : Hid (TL = thoseL p (xs.map Itm.l)) := by rw [Hid, HS.out.2, if_pos (setsE_all HG.out)]
      have HR : Hid (∀ l ∈ xs.map Itm.l, Rises l) := fun l hl => by
        obtain ⟨y, hy, rfl⟩ := List.mem_map.1 hl
        exact (asI_set (HG.out y hy)).1
      have HZL : Hid (∀ l ∈ xs.map Itm.l, ∀ t ∈ l, t.size ≤ 60) := fun l hl => by
        obtain ⟨y, hy, rfl⟩ := List.mem_map.1 hl
        exact (asI_set (HG.out y hy)).2.2
      subst hSE
      have hsum : (xs.map Itm.l).flatten.length ≤ 1500000 := by
        rcases HSUM.out with hsum | hx5
        · exact hsum
        · have h1 := flat_small xs (fun y hy => (asI_set (HG.out y hy)).2.1)
          omega
      clear HS HG HX hwW hmm HSUM
      generalize hls : xs.map Itm.l = ls at *
      clear hls
      obtain ⟨i0, hi, hz0, hz1, hz2⟩ := info_parts infoStr
      have hsD : Maps.size D ≤ 1500000 := Nat.le_trans hown.size_le hsum
      have hmbl := hown.lt
      generalize ls.flatten.length = NN at *
      obtain ⟨wq, hwq⟩ : ∃ wq, wq = wr := ⟨wr, rfl⟩
      subst hwq
      go_wp2_with (at_range; refine wpList_range_own _ rfl _ 175 rfl 9 3 lawS Tryz.underlying175 _ w.heap.size NN D rfl hown ?_; intro w0 hrg0 hg0 hs0)
      have B0 : Below w.heap.size w w0 := hnx.grown hg0 hnx.size (fun j hj => by cases hj)
      clear hg0 hs0
      go_loopw [12] (fun v wr => ∃ left cnt ss, RngAt p ls w wq.heap.size NN D left cnt ss v wr) (fun _ wr => wr.rangeLeft w.heap.size wq.heap.size)
      case atStart => exact ⟨_, _, [], ⟨hrg0, by simp, World.ownsRow_nil _ _ _ _, Collected.start D, B0⟩⟩
      case round =>
        clear hrg0 B0
        obtain ⟨left, cnt, ss, hR⟩ := hrel
        have hrg := hR.rg
        have HRR := hide hR
        clear hR
        go_wp2_with (at_next; refine wpList_next_ranges _ rfl _ rfl 9 lawS (plainElem Tryz.prog 3) encStr (Value.int .i64) (fun key kl hk => by obtain ⟨x, hx, _⟩ := Maps.keyOf_str Tryz.underlying9 hk; exact ⟨x, hx⟩) (fun v y hv => by obtain ⟨c, rfl, _⟩ := plainElem_int_inv Tryz.underlying3 hv; exact ⟨c, rfl⟩) w.heap.size wq.heap.size NN _ _ _ rfl hrg ?_ ?_)
        · intro hc0 hl0
          obtain ⟨av, cv, hav⟩ := slice_own HRR.out.rw
          subst hav
          have hal := askL_len p ls ss
          have hct := HRR.out.ct
          have HSO := hide (sort_any av cv (askL p ls ss) w wr HRR.out.bl (fun hne => by
            obtain ⟨gg, cc, e, _, _⟩ := HRR.out.rw.form (List.length_pos_iff.2 hne)
            injection e with e1 e2 e3
            subst e1
            exact ⟨gg, rfl, own_low HRR.out.rw (Nat.le_of_lt hmbl)⟩) (by omega))
          have HEND : Hid (sortL (askL p ls ss) = TL) := by
            rw [Hid, HTL.out]
            refine askL_end HRR.out.cl.1 (fun x => ?_)
            rw [HRR.out.cl.2 x, hl0, ← HD.out.has_]
            simp
          have hTll : TL.length = (askL p ls ss).length := by rw [← HEND.out, sortL_len]
          clear hrg HRR
          generalize askL p ls ss = ML at *
          go_wp2_with fail
          refine HSO.out.mono ?_
          rintro e w4 ⟨rfl, hb4, hr4⟩
          have HR4 := hide hr4
          clear hr4 HSO
          go_wp2_with fail
          refine bodyPost_ret (v := .tuple #[.slice av ML.length cv, .int .i64 0]) (by simp [results, Tryz.results102, go_sem]) rfl ⟨av, cv, by rw [hTll], fun W hW => ?_, hb4⟩
          by_cases hML : ML = []
          · refine .inl (List.eq_nil_of_length_eq_zero ?_)
            rw [hTll, hML]
            rfl
          · obtain ⟨gg, rfl, ho⟩ := HR4.out hML
            rw [HEND.out, ← hTll] at ho
            exact texts_ownF ho hW
        · intro x c kl yd yp w2 cnt2 hkey hlk hv hat hrg2 hlt2 hg2 hs2 hen
          obtain ⟨x', ex, rfl, hxl⟩ := Maps.keyOf_str Tryz.underlying9 hkey
          obtain rfl : x = x' := encStr_inj ex
          have hcn : c = ((cntL ls ⟨x.toArray⟩ : Nat) : Int) := by
            obtain ⟨a, h1, h2, _⟩ := plainElem_int_inv Tryz.underlying3 hv
            injection h1 with _ h1
            have h3 := hat (.lit (.int .i64 0))
            rw [HD.out.at_ x] at h3
            have h4 := count_flat ls ⟨x.toArray⟩ HR.out
            rw [show (ByteArray.mk x.toArray).data.toList = x by simp] at h4
            rw [h4] at h3
            injection h2 with h2 _
            rw [h2] at h3
            injection h3 with h3
            injection h3 with _ h3
            rw [h1, ← h3]
          obtain ⟨s, hs⟩ : ∃ s : ByteArray, s = ⟨x.toArray⟩ := ⟨_, rfl⟩
          have HXS := hide hs
          have exs : (encStr x : Value) = .string s := by rw [hs]
          rw [← hs] at hcn
          obtain ⟨n, hn⟩ : ∃ n, n = cntL ls s := ⟨_, rfl⟩
          rw [← hn] at hcn
          have HN := hide hn
          subst hcn
          have hrow2 := HRR.out.rw.kept hg2 (Or.inr (row_ne_iter HRR.out.rw hrg).symm)
          have hbl := HRR.out.bl
          have hzb := hbl.size
          have hrl := hrg.lt
          have hB2 : Below w.heap.size w w2 := hbl.grown hg2 hbl.size (fun j hj => by cases hj; exact Nat.le_of_lt hmbl)
          have hzz2 := hg2.size
          have hct := HRR.out.ct
          have hal := askL_len p ls ss
          have HCS := hide (HRR.out.cl.step hlk hat)
          have hleft := hrg.left_eq
          have HLE := hide hleft
          rw [exs] at hen
          clear hs hn hs2 hrg HRR hkey hv hat ex hg2 hlk hleft hbl
          rw [exs]
          clear exs hxl
          go_wp2_with fail
          refine (HA.out w2 s n hB2).mono ?_
          rintro e w3 ⟨rfl, hb3⟩
          have hrg3 := hrg2.kept (grown_none hb3) (by simp) (by simp)
          have hrow3 := (Kept.of_below hb3 (fun _ => False)).owns hrow2 (fun _ _ e => e)
          have hB3 : Below w.heap.size w w3 := hB2.trans (hb3.mono hB2.size)
          have hz3 := hb3.size
          clear hrg2 hrow2 hb3 hB2
          cases hp : p s n with
          | true =>
            have HP : Hid (p s (cntL ls s) = true) := by rw [Hid, ← HN.out]; exact hp
            clear hp
            go_wp2_with (at_builtin; refine wpList_append_own _ rfl _ _ 24 rfl wq.heap.size 9 i0 (.string ⟨#[]⟩) 1 16 Tryz.underlying24 hi hz0 hz1 hz2 rfl (by decide) _ _ _ rfl (hrow3.alloc _) ⟨w3.heap.size, 0, none⟩ 1 1 [.string s] rfl rfl ?c1 ?c2 ?c3 ?c4 ?c5 ?_)
            case c1 =>
              intro j u hj
              match j, hj with
              | 0, hj => simp at hj; subst hj; simp [Addr.add]
            case c2 => intro u hu; simp at hu; subst hu; rfl
            case c3 => unfold maxLen; omega
            case c4 => omega
            case c5 => simp; omega
            intro v' w4 hown4 hg4 _
            have hrg4 := (hrg3.alloc (.cells #[.string s] 9)).kept hg4 (row_ne_low hrow3 hmbl) (row_ne_iter hrow3 hrg3)
            have hB4 : Below w.heap.size w w4 := (hB3.alloc hB3.size _).grown hg4 (by simp; omega) (fun j hj => by have := (hrow3.lt j hj).1; omega)
            have HR4 : Hid (RngAt p ls w wq.heap.size NN D (fun z => left z && !z.sameKey (.string x)) cnt2 (ss ++ [x]) v' w4) := ⟨hrg4, by rw [List.length_append]; simp; omega, by rw [askL_yes HXS.out HP.out, List.length_append]; simpa [strs] using hown4, HCS.out, hB4⟩
            have hle4 := hrg4.left_eq
            clear hrow3 hrg3 hown4 hg4 hB3 hrg4 hB4
            go_wp2_with fail
            go_roundw
            case rel => exact ⟨_, cnt2, ss ++ [x], HR4.out⟩
            case measure => rw [hle4, HLE.out]; exact hlt2
          | false =>
            have HP : Hid (p s (cntL ls s) = false) := by rw [Hid, ← HN.out]; exact hp
            clear hp
            have hrow4 := hrow3
            rw [← askL_no (ss := ss) HXS.out HP.out] at hrow4
            have HR4 := hide (RngAt.mk (ss := ss ++ [x]) hrg3 (by rw [List.length_append]; simp; omega) hrow4 HCS.out hB3)
            clear hrow4
            have hle4 := hrg3.left_eq
            clear hrow3 hrg3 hB3
            go_wp2_with fail
            go_roundw
            case rel => exact ⟨_, cnt2, ss ++ [x], HR4.out⟩
            case measure => rw [hle4, HLE.out]; exact hlt2
set_option maxRecDepth 100000 in
set_option maxHeartbeats 4000000 in
theorem thoseL_some (b : Nat) (p : ByteArray → Nat → Bool) (a : Option Addr) (c : Nat) (xs : List Itm) (w : World) (hx : ItemsAt w a xs) (hne : xs ≠ []) (hxl : xs.length ≤ 1500000) (HSUM : Hid ((xs.map Itm.l).flatten.length ≤ 1500000 ∨ xs.length ≤ 50000)) (SE : Int) (TL : List ByteArray) (HS : Hid (SE = setsE xs ∧ TL = if setsE xs = 0 then thoseL p (xs.map Itm.l) else []))
    (HA : Hid (∀ W m (n : Nat), Below w.heap.size w W → Calls Tryz.prog 147 #[.string m, .int .i64 n, .pointer (some ⟨b, 0, none⟩)] W fun e w' => e = .returned (.bool (p m n)) ∧ Below W.heap.size W w')) :
    Calls Tryz.prog 102 #[.slice a xs.length c, .func (.func 147) #[] #[.pointer (some ⟨b, 0, none⟩)]] w fun e w' => ∃ a' cap, e = .returned (.tuple #[.slice a' TL.length cap, .int .i64 SE]) ∧ (∀ W, (∀ g o u, w.heap.size ≤ g → w'.cell? ⟨g, o, none⟩ = some u → w'.frozen? ⟨g, o, none⟩ = false → W.cell? ⟨g, o, none⟩ = some u) → TextsAt W a' TL) ∧ Below w.heap.size w w' := by
  have hmm := @run_makeMap Tryz.prog
  obtain ⟨g, o, rfl, hc⟩ := hx.resolve_left hne
  have HX := hide hc
  have hpos : 0 < xs.length := List.length_pos_iff.2 hne
  have hpos' : ¬ ((xs.length : Nat) : Int) = 0 := by omega
  clear hc hne hx
  go_enter Tryz.func102, Tryz.ntmps102
  go_wp2_with fail
  have hwW : Hid (Below w.heap.size w (w.alloc (.map #[] 0))) := (Below.refl _ w).alloc (Nat.le_refl _) _
  go_loopw [21] (fun i wr => ∃ (k : Nat) (D : DataW Unit), k ≤ xs.length ∧ i = .int .i64 k ∧ ThoseAt xs w k D wr) (fun i _ => xs.length - (intOf i).toNat)
  case atStart => exact ⟨0, .map [], by omega, rfl, ⟨fun x hx => by simp at hx, Counts.start, World.ownsMap_made _ _ _ _, hwW.out⟩⟩
  case round =>
    obtain ⟨k, D, hk, rfl, hTA⟩ := hrel
    have HG := hide hTA.g
    have HD := hide hTA.d
    have hown := hTA.o
    have hnx := hTA.b
    clear hTA
    have hzr := hnx.size
    by_cases hlt : k < xs.length
    · have hlt' : ((k : Nat) : Int) < ((xs.length : Nat) : Int) := by omega
      obtain ⟨a1, c1, a2, c2, a3, c3, ⟨e0, e1, e2, e3, e4⟩, hI⟩ := HX.out k hlt
      have HI := hide hI
      have HBC : Hid (∀ g o v, w.cell? ⟨g, o, none⟩ = some v → wr.cell? ⟨g, o, none⟩ = some v) := fun g o _ hv => (hnx.cell (p := ⟨g, o, none⟩) (World.block_lt_of_cell? _ _ hv)).trans hv
      have d0 := HBC.out _ _ _ e0
      have d1 := HBC.out _ _ _ e1
      have d2 := HBC.out _ _ _ e2
      have d3 := HBC.out _ _ _ e3
      have d4 := HBC.out _ _ _ e4
      have HC : Hid (∀ W, Below w.heap.size w W → Calls Tryz.prog 85 #[.agg #[.int .i64 xs[k].k, .string xs[k].t, .slice a1 xs[k].l.length c1, .slice a2 xs[k].p.length c2, .slice a3 xs[k].s.length c3], .int .i64 3] W fun e w' => e = .returned (.int .i64 (asI xs[k] 3)) ∧ Below W.heap.size W w') := fun W hW => common_any _ xs[k] 3 W (HI.out.below hW)
      have HTK : Hid (xs.take (k + 1) = xs.take k ++ [xs[k]]) := List.take_succ_eq_append_getElem hlt
      obtain ⟨X, hX⟩ : ∃ X, X = xs[k] := ⟨_, rfl⟩
      rw [← hX] at d0 d1 d2 d3 d4 HC HTK HI
      have HXX := hide hX
      clear hX e0 e1 e2 e3 e4 hI HBC
      have hXL : Hid (asI X 3 = 0 → Rises X.l ∧ X.l.length ≤ 24 ∧ (∀ t ∈ X.l, t.size ≤ 60)) := asI_set
      obtain ⟨hT1, hTn⟩ : TextsAt w a1 X.l ∧ X.l.length ≤ 281474976710656 := by
        obtain ⟨⟨b1, q1, b2, q2, b3, q3, e, t1, -, -⟩, -, -, -, -, hl1, -, -⟩ := HI.out
        injection e with e
        have e' := congrArg (fun z => z[2]?) e
        simp at e'
        obtain ⟨rfl, _⟩ := e'
        exact ⟨t1, hl1⟩
      have HT1 := hide hT1
      clear hT1 HI
      generalize hXl : X.l = L at *
      have HXl := hide hXl
      clear hXl
      obtain ⟨E, hE⟩ : ∃ E, E = asI X 3 := ⟨_, rfl⟩
      rw [← hE] at HC hXL
      have HE := hide hE
      clear hE
      go_wp2_with fail
      refine (HC.out _ (hnx.alloc hnx.size _)).mono ?_
      rintro e w1 ⟨rfl, hb1⟩
      have hB1 : Below w.heap.size w w1 := (hnx.alloc hnx.size _).trans (hb1.mono (by simp; omega))
      have hg1 : wr.grownBy w1 none := (World.grownBy_alloc wr _ none).trans ⟨hb1.os, hb1.tape, hb1.output, hb1.size, fun j hj _ => hb1.block j hj⟩
      have hown1 := hown.kept hg1 (by simp)
      have bx2 : w1.cell? ⟨wr.heap.size, 2, none⟩ = some (.slice a1 L.length c1) := (hb1.cell (p := ⟨wr.heap.size, 2, none⟩) (by simp)).trans (by simp [go_sem])
      clear hown hg1 hb1 d0 d1 d2 d3 d4 HC hwW hmm
      by_cases h0 : E = 0
      · obtain ⟨hri, h24, h60⟩ := hXL.out h0
        have HZ : Hid (∀ t ∈ L, t.size ≤ maxLen) := fun t ht => by have := h60 t ht; unfold maxLen; omega
        have HE0 : Hid (asI X 3 = 0) := HE.out.symm.trans h0
        subst h0
        clear hXL h60 HE
        have hpl : ((xs.take k).map Itm.l).flatten.length + L.length ≤ 1500000 := by
          rcases HSUM.out with hsum | hx5
          rotate_left
          · have h1 := flat_small (xs.take k) (fun y hy => (asI_set (HG.out y hy)).2.1)
            rw [List.length_take] at h1
            omega
          have h1 : ((xs.take (k + 1)).map Itm.l).flatten.length ≤ (xs.map Itm.l).flatten.length := by
            have e : xs.map Itm.l = (xs.take (k + 1)).map Itm.l ++ (xs.drop (k + 1)).map Itm.l := by rw [← List.map_append, List.take_append_drop]
            rw [e, List.flatten_append, List.length_append]
            omega
          rw [HTK.out, List.map_append, List.flatten_append, List.length_append] at h1
          have e9 : (([X].map Itm.l).flatten).length = L.length := by simp [HXl.out]
          rw [e9] at h1
          omega
        generalize hpre : ((xs.take k).map Itm.l).flatten = pre at *
        have HPRE := hide hpre
        clear hpre
        go_wp2_with fail
        go_loopw [33] (fun i wr => ∃ (m : Nat) (D : DataW Unit), m ≤ L.length ∧ i = .int .i64 m ∧ Hid (Counts D (pre ++ L.take m)) ∧ wr.ownsMap Tryz.prog 9 (plainElem Tryz.prog 3) w.heap.size (pre.length + m) D ∧ Below w.heap.size w wr) (fun i _ => L.length - (intOf i).toNat)
        case atStart => exact ⟨0, D, by omega, rfl, by rw [List.take_zero, List.append_nil]; exact HD.out, hown1, hB1⟩
        case round =>
          clear hown1 bx2 HD D
          obtain ⟨m, D, hm, rfl, HD, hown, hnx2⟩ := hrel
          by_cases hmt : m < L.length
          · have hmt' : ((m : Nat) : Int) < ((L.length : Nat) : Int) := by omega
            obtain ⟨g1, o1, rfl, hcs⟩ : ∃ g o, a1 = some ⟨g, o, none⟩ ∧ ∀ i (h : i < L.length), w.cell? ⟨g, o + i, none⟩ = some (.string L[i]) := by
              rcases HT1.out with h | h
              · subst h; simp at hmt
              · exact h
            have d0 : wr.cell? ⟨g1, o1 + m, none⟩ = some (.string L[m]) := (hnx2.cell (p := ⟨g1, o1 + m, none⟩) (World.block_lt_of_cell? _ _ (hcs m hmt))).trans (hcs m hmt)
            have HTM : Hid (pre ++ L.take (m + 1) = (pre ++ L.take m) ++ [L[m]]) := by rw [Hid, List.take_succ_eq_append_getElem hmt, List.append_assoc]
            have hsz : L[m].size ≤ maxLen := HZ.out _ (List.getElem_mem _)
            obtain ⟨s, hs⟩ : ∃ s, s = L[m] := ⟨_, rfl⟩
            rw [← hs] at d0 HTM hsz
            have hkey := keyS hsz
            clear hs hcs
            go_wp2_with (first
              | (at_lookup; refine wpList_lookup_own_int _ rfl _ _ 175 rfl 9 3 .i64 lawS Tryz.underlying175 Tryz.underlying3 (zeroI _) w.heap.size (pre.length + m) D rfl hown _ _ rfl hkey ?_; intro cc hat hwc)
              | (at_mapUpdate; refine wpList_mapUpdate_own _ rfl _ _ _ 175 rfl 9 3 lawS Tryz.underlying175 _ w.heap.size (pre.length + m) D rfl hown (by unfold maxLen; omega) _ _ _ rfl rfl hkey _ [] (plainElem_int Tryz.underlying3 (wrap64_wf _)) ?_))
            intro w5 hown5 hg5
            have B5 := hnx2.grown hg5 hnx2.size (fun j hj => by cases hj; exact Nat.le_refl _)
            have hcc : cc = (((bytesL (pre ++ L.take m)).count s.data.toList : Nat) : Int) := by
              have h1 := HD.out.at_ s.data.toList
              rw [h1] at hat
              injection hat with hat
              injection hat with _ hat
              exact hat.symm
            have hcl : (bytesL (pre ++ L.take m)).count s.data.toList ≤ 1500000 := by
              have h1 := List.count_le_length (a := s.data.toList) (l := bytesL (pre ++ L.take m))
              rw [bytesL_len, List.length_append, List.length_take] at h1
              omega
            have HC5 : Hid (Counts (D.put (.string s.data.toList) (.lit (.int .i64 (wrap64 (cc + 1))))) (pre ++ L.take (m + 1))) := by
              rw [HTM.out]
              have e : wrap64 (cc + 1) = (((bytesL (pre ++ L.take m)).count s.data.toList : Nat) : Int) + 1 := by rw [hcc]; unfold wrap64; omega
              rw [e]
              exact HD.out.step hown.isMap s
            clear hown hat hwc hcc hcl d0 hkey hg5
            go_wp2_with fail
            go_roundw
            case rel => exact ⟨m + 1, _, by omega, by go_num, HC5, hown5, B5⟩
            case measure => simp [intOf]; omega
          · have hge : ¬ ((m : Nat) : Int) < ((L.length : Nat) : Int) := by omega
            obtain rfl : m = L.length := by omega
            go_wp2_with fail
            have e2 : ((xs.take (k + 1)).map Itm.l).flatten = pre ++ L := by
              rw [HTK.out, List.map_append, List.flatten_append, HPRE.out]
              simp [HXl.out]
            refine ⟨⟨_, _, _, _, _, .int .i64 (((k : Nat) : Int) + 1), ⟨k + 1, by omega, by simp, D, ?_, ?_, ?_, hnx2⟩, rfl, rfl, rfl, rfl, rfl, rfl⟩, by simp [intOf]; omega⟩
            · rw [HTK.out]
              intro x hx
              rcases List.mem_append.1 hx with hx | hx
              · exact HG.out x hx
              · rw [List.mem_singleton.1 hx]; exact HE0.out
            · rw [e2]
              have := HD.out
              rw [List.take_length] at this
              exact this
            · rw [e2, List.length_append]
              exact hown
      · have h0' : (E == 0) = false := by rw [beq_eq_false_iff_ne]; exact h0
        go_wp2_with fail
        have hse : setsE xs = E := by
          have h1 := setsE_at hlt HG.out (by rw [← HXX.out, ← HE.out]; exact h0)
          rw [h1, ← HXX.out, ← HE.out]
        refine bodyPost_ret (v := .tuple #[.slice none 0 0, .int .i64 E]) (by simp [results, Tryz.results102, go_sem]) rfl ?_
        have e1 : SE = E := HS.out.1.trans hse
        have e2 : TL = [] := by rw [HS.out.2, hse, if_neg h0]
        rw [e1, e2]
        exact ⟨none, 0, rfl, fun W _ => .inl rfl, hB1⟩
    · have hge : ¬ ((k : Nat) : Int) < ((xs.length : Nat) : Int) := by omega
      obtain rfl : k = xs.length := by omega
      rw [List.take_length] at HG HD hown
      have hSE : SE = 0 := HS.out.1.trans (setsE_all HG.out)
      have HTL : Hid (TL = thoseL p (xs.map Itm.l)) := by rw [Hid, HS.out.2, if_pos (setsE_all HG.out)]
      have HR : Hid (∀ l ∈ xs.map Itm.l, Rises l) := fun l hl => by
        obtain ⟨y, hy, rfl⟩ := List.mem_map.1 hl
        exact (asI_set (HG.out y hy)).1
      have HZL : Hid (∀ l ∈ xs.map Itm.l, ∀ t ∈ l, t.size ≤ 60) := fun l hl => by
        obtain ⟨y, hy, rfl⟩ := List.mem_map.1 hl
        exact (asI_set (HG.out y hy)).2.2
      subst hSE
      have hsum : (xs.map Itm.l).flatten.length ≤ 1500000 := by
        rcases HSUM.out with hsum | hx5
        · exact hsum
        · have h1 := flat_small xs (fun y hy => (asI_set (HG.out y hy)).2.1)
          omega
      clear HS HG HX hwW hmm HSUM
      generalize hls : xs.map Itm.l = ls at *
      clear hls
      obtain ⟨i0, hi, hz0, hz1, hz2⟩ := info_parts infoStr
      have hsD : Maps.size D ≤ 1500000 := Nat.le_trans hown.size_le hsum
      have hmbl := hown.lt
      generalize ls.flatten.length = NN at *
      obtain ⟨wq, hwq⟩ : ∃ wq, wq = wr := ⟨wr, rfl⟩
      subst hwq
      go_wp2_with (at_range; refine wpList_range_own _ rfl _ 175 rfl 9 3 lawS Tryz.underlying175 _ w.heap.size NN D rfl hown ?_; intro w0 hrg0 hg0 hs0)
      have B0 : Below w.heap.size w w0 := hnx.grown hg0 hnx.size (fun j hj => by cases hj)
      clear hg0 hs0
      go_loopw [12] (fun v wr => ∃ left cnt ss, RngAt p ls w wq.heap.size NN D left cnt ss v wr) (fun _ wr => wr.rangeLeft w.heap.size wq.heap.size)
      case atStart => exact ⟨_, _, [], ⟨hrg0, by simp, World.ownsRow_nil _ _ _ _, Collected.start D, B0⟩⟩
      case round =>
        clear hrg0 B0
        obtain ⟨left, cnt, ss, hR⟩ := hrel
        have hrg := hR.rg
        have HRR := hide hR
        clear hR
        go_wp2_with (at_next; refine wpList_next_ranges _ rfl _ rfl 9 lawS (plainElem Tryz.prog 3) encStr (Value.int .i64) (fun key kl hk => by obtain ⟨x, hx, _⟩ := Maps.keyOf_str Tryz.underlying9 hk; exact ⟨x, hx⟩) (fun v y hv => by obtain ⟨c, rfl, _⟩ := plainElem_int_inv Tryz.underlying3 hv; exact ⟨c, rfl⟩) w.heap.size wq.heap.size NN _ _ _ rfl hrg ?_ ?_)
        · intro hc0 hl0
          obtain ⟨av, cv, hav⟩ := slice_own HRR.out.rw
          subst hav
          have hal := askL_len p ls ss
          have hct := HRR.out.ct
          have HSO := hide (sort_any av cv (askL p ls ss) w wr HRR.out.bl (fun hne => by
            obtain ⟨gg, cc, e, _, _⟩ := HRR.out.rw.form (List.length_pos_iff.2 hne)
            injection e with e1 e2 e3
            subst e1
            exact ⟨gg, rfl, own_low HRR.out.rw (Nat.le_of_lt hmbl)⟩) (by omega))
          have HEND : Hid (sortL (askL p ls ss) = TL) := by
            rw [Hid, HTL.out]
            refine askL_end HRR.out.cl.1 (fun x => ?_)
            rw [HRR.out.cl.2 x, hl0, ← HD.out.has_]
            simp
          have hTll : TL.length = (askL p ls ss).length := by rw [← HEND.out, sortL_len]
          clear hrg HRR
          generalize askL p ls ss = ML at *
          go_wp2_with fail
          refine HSO.out.mono ?_
          rintro e w4 ⟨rfl, hb4, hr4⟩
          have HR4 := hide hr4
          clear hr4 HSO
          go_wp2_with fail
          refine bodyPost_ret (v := .tuple #[.slice av ML.length cv, .int .i64 0]) (by simp [results, Tryz.results102, go_sem]) rfl ⟨av, cv, by rw [hTll], fun W hW => ?_, hb4⟩
          by_cases hML : ML = []
          · refine .inl (List.eq_nil_of_length_eq_zero ?_)
            rw [hTll, hML]
            rfl
          · obtain ⟨gg, rfl, ho⟩ := HR4.out hML
            rw [HEND.out, ← hTll] at ho
            exact texts_ownF ho hW
        · intro x c kl yd yp w2 cnt2 hkey hlk hv hat hrg2 hlt2 hg2 hs2 hen
          obtain ⟨x', ex, rfl, hxl⟩ := Maps.keyOf_str Tryz.underlying9 hkey
          obtain rfl : x = x' := encStr_inj ex
          have hcn : c = ((cntL ls ⟨x.toArray⟩ : Nat) : Int) := by
            obtain ⟨a, h1, h2, _⟩ := plainElem_int_inv Tryz.underlying3 hv
            injection h1 with _ h1
            have h3 := hat (.lit (.int .i64 0))
            rw [HD.out.at_ x] at h3
            have h4 := count_flat ls ⟨x.toArray⟩ HR.out
            rw [show (ByteArray.mk x.toArray).data.toList = x by simp] at h4
            rw [h4] at h3
            injection h2 with h2 _
            rw [h2] at h3
            injection h3 with h3
            injection h3 with _ h3
            rw [h1, ← h3]
          obtain ⟨s, hs⟩ : ∃ s : ByteArray, s = ⟨x.toArray⟩ := ⟨_, rfl⟩
          have HXS := hide hs
          have exs : (encStr x : Value) = .string s := by rw [hs]
          rw [← hs] at hcn
          obtain ⟨n, hn⟩ : ∃ n, n = cntL ls s := ⟨_, rfl⟩
          rw [← hn] at hcn
          have HN := hide hn
          subst hcn
          have hrow2 := HRR.out.rw.kept hg2 (Or.inr (row_ne_iter HRR.out.rw hrg).symm)
          have hbl := HRR.out.bl
          have hzb := hbl.size
          have hrl := hrg.lt
          have hB2 : Below w.heap.size w w2 := hbl.grown hg2 hbl.size (fun j hj => by cases hj; exact Nat.le_of_lt hmbl)
          have hzz2 := hg2.size
          have hct := HRR.out.ct
          have hal := askL_len p ls ss
          have HCS := hide (HRR.out.cl.step hlk hat)
          have hleft := hrg.left_eq
          have HLE := hide hleft
          rw [exs] at hen
          clear hs hn hs2 hrg HRR hkey hv hat ex hg2 hlk hleft hbl
          rw [exs]
          clear exs hxl
          go_wp2_with fail
          refine (HA.out w2 s n hB2).mono ?_
          rintro e w3 ⟨rfl, hb3⟩
          have hrg3 := hrg2.kept (grown_none hb3) (by simp) (by simp)
          have hrow3 := (Kept.of_below hb3 (fun _ => False)).owns hrow2 (fun _ _ e => e)
          have hB3 : Below w.heap.size w w3 := hB2.trans (hb3.mono hB2.size)
          have hz3 := hb3.size
          clear hrg2 hrow2 hb3 hB2
          cases hp : p s n with
          | true =>
            have HP : Hid (p s (cntL ls s) = true) := by rw [Hid, ← HN.out]; exact hp
            clear hp
            go_wp2_with (at_builtin; refine wpList_append_own _ rfl _ _ 24 rfl wq.heap.size 9 i0 (.string ⟨#[]⟩) 1 16 Tryz.underlying24 hi hz0 hz1 hz2 rfl (by decide) _ _ _ rfl (hrow3.alloc _) ⟨w3.heap.size, 0, none⟩ 1 1 [.string s] rfl rfl ?c1 ?c2 ?c3 ?c4 ?c5 ?_)
            case c1 =>
              intro j u hj
              match j, hj with
              | 0, hj => simp at hj; subst hj; simp [Addr.add]
            case c2 => intro u hu; simp at hu; subst hu; rfl
            case c3 => unfold maxLen; omega
            case c4 => omega
            case c5 => simp; omega
            intro v' w4 hown4 hg4 _
            have hrg4 := (hrg3.alloc (.cells #[.string s] 9)).kept hg4 (row_ne_low hrow3 hmbl) (row_ne_iter hrow3 hrg3)
            have hB4 : Below w.heap.size w w4 := (hB3.alloc hB3.size _).grown hg4 (by simp; omega) (fun j hj => by have := (hrow3.lt j hj).1; omega)
            have HR4 : Hid (RngAt p ls w wq.heap.size NN D (fun z => left z && !z.sameKey (.string x)) cnt2 (ss ++ [x]) v' w4) := ⟨hrg4, by rw [List.length_append]; simp; omega, by rw [askL_yes HXS.out HP.out, List.length_append]; simpa [strs] using hown4, HCS.out, hB4⟩
            have hle4 := hrg4.left_eq
            clear hrow3 hrg3 hown4 hg4 hB3 hrg4 hB4
            go_wp2_with fail
            go_roundw
            case rel => exact ⟨_, cnt2, ss ++ [x], HR4.out⟩
            case measure => rw [hle4, HLE.out]; exact hlt2
          | false =>
            have HP : Hid (p s (cntL ls s) = false) := by rw [Hid, ← HN.out]; exact hp
            clear hp
            have hrow4 := hrow3
            rw [← askL_no (ss := ss) HXS.out HP.out] at hrow4
            have HR4 := hide (RngAt.mk (ss := ss ++ [x]) hrg3 (by rw [List.length_append]; simp; omega) hrow4 HCS.out hB3)
            clear hrow4
            have hle4 := hrg3.left_eq
            clear hrow3 hrg3 hB3
            go_wp2_with fail
            go_roundw
            case rel => exact ⟨_, cnt2, ss ++ [x], HR4.out⟩
            case measure => rw [hle4, HLE.out]; exact hlt2
end Go.Proofs.YtcidoodaiimhfaaGreat
namespace Go.Proofs.YtcidoodaiimhfaaGreat
open Go.RowKit

set_option maxRecDepth 100000 in
theorem those_none (a : Option Addr) (c : Nat) (fv : Value) (w : World) : Calls Tryz.prog 102 #[.slice a 0 c, fv] w fun e w' => ∃ a' cap, e = .returned (.tuple #[.slice a' ([] : List ByteArray).length cap, .int .i64 1]) ∧ (∀ W', (∀ g o u, w.heap.size ≤ g → w'.cell? ⟨g, o, none⟩ = some u → w'.frozen? ⟨g, o, none⟩ = false → W'.cell? ⟨g, o, none⟩ = some u) → TextsAt W' a' []) ∧ Below w.heap.size w w' := by
  go_enter Tryz.func102, Tryz.ntmps102
  go_wp2_with fail
  refine bodyPost_ret (v := .tuple #[.slice none 0 0, .int .i64 1]) (by simp [results, Tryz.results102, go_sem]) rfl ⟨none, 0, rfl, fun W _ => .inl rfl, Below.refl _ _⟩
/-- what meet asks for -/
def askM (xs : List Itm) : ByteArray → Nat → Bool := fun _ n => decide (n = xs.length)
set_option maxRecDepth 100000 in
set_option maxHeartbeats 1000000 in
theorem askM_any (b : Nat) (a : Option Addr) (c : Nat) (xs : List Itm) (m : ByteArray) (n : Nat) (W : World) (hx : ItemsAt W a xs) (hne : xs ≠ []) (hxl : xs.length ≤ 1500000) (hc : W.cell? ⟨b, 0, none⟩ = some (.slice a xs.length c)) : Calls Tryz.prog 103 #[.string m, .int .i64 n, .pointer (some ⟨b, 0, none⟩)] W fun e w' => e = .returned (.bool (askM xs m n)) ∧ Below W.heap.size W w' := by
  have _u1 := hx
  have _u2 := hne
  have _u3 := hxl
  clear _u1 _u2 _u3
  have hd : (((n : Nat) : Int) == ((xs.length : Nat) : Int)) = decide (n = xs.length) := by rw [Bool.eq_iff_iff]; simp; omega
  clear hx
  go_enter Tryz.func103, Tryz.ntmps103
  go_wp2_with fail
  go_ret
  exact ⟨by first | rfl | rw [askM, ← hd] | simp [askM], Below.refl _ _⟩

set_option maxRecDepth 100000 in
set_option maxHeartbeats 1000000 in
theorem meet_own2 (a : Option Addr) (c : Nat) (xs : List Itm) (w : World) (hx : ItemsAt w a xs) (hxl : xs.length ≤ 1500000) (HSUM : Hid ((xs.map Itm.l).flatten.length ≤ 1500000 ∨ xs.length ≤ 50000)) (SE : Int) (TL : List ByteArray) (HS : Hid (SE = setsF xs ∧ TL = if setsF xs = 0 then thoseL (askM xs) (xs.map Itm.l) else [])) :
    Calls Tryz.prog 40 #[.slice a xs.length c] w fun e w' => ∃ a' cap, e = .returned (.tuple #[.slice a' TL.length cap, .int .i64 SE]) ∧ (∀ W, (∀ g o u, w.heap.size ≤ g → w'.cell? ⟨g, o, none⟩ = some u → w'.frozen? ⟨g, o, none⟩ = false → W.cell? ⟨g, o, none⟩ = some u) → TextsAt W a' TL) ∧ Below w.heap.size w w' := by
  have HB : Hid (∀ W, ∀ b, W.cell? ⟨b, 0, none⟩ = some (.slice a xs.length c) → Below w.heap.size w W → Calls Tryz.prog 102 #[.slice a xs.length c, .func (.func 103) #[] #[.pointer (some ⟨b, 0, none⟩)]] W fun e w' => ∃ a' cap, e = .returned (.tuple #[.slice a' TL.length cap, .int .i64 SE]) ∧ (∀ W', (∀ g o u, W.heap.size ≤ g → w'.cell? ⟨g, o, none⟩ = some u → w'.frozen? ⟨g, o, none⟩ = false → W'.cell? ⟨g, o, none⟩ = some u) → TextsAt W' a' TL) ∧ Below W.heap.size W w') := fun W b hcb hW => by
    by_cases hne : xs = []
    · subst hne
      obtain ⟨e1, e2⟩ := HS.out
      have h1 : SE = 1 := e1
      have h2 : TL = [] := e2
      subst h1 h2
      exact those_none a c _ W
    · have e : setsF xs = setsE xs := if_neg hne
      refine thoseM_some b (askM xs) a c xs W (hx.below hW) hne hxl HSUM SE TL (by rw [← e]; exact HS.out) (fun W2 m n hW2 => ?_)
      exact askM_any b a c xs m n W2 (hx.below (hW.trans (hW2.mono hW.size))) hne hxl ((hW2.cell (p := ⟨b, 0, none⟩) (World.block_lt_of_cell? _ _ hcb)).trans hcb)
  clear hx HS
  go_enter Tryz.func40, Tryz.ntmps40
  go_wp2_with fail
  refine (HB.out _ w.heap.size (by simp [go_sem]) ((Below.refl _ w).alloc (Nat.le_refl _) _)).mono ?_
  rintro e w1 ⟨a', cap, rfl, hT, hb⟩
  have HT := hide hT
  clear hT HB
  go_wp2_with fail
  refine bodyPost_ret (v := .tuple #[.slice a' TL.length cap, .int .i64 SE]) (by simp [results, Tryz.results40, go_sem]) rfl ⟨a', cap, rfl, fun W hW => HT.out W (fun g o u hg hu hf => hW g o u (by simp at hg; omega) hu hf), ((Below.refl _ w).alloc (Nat.le_refl _) _).trans (hb.mono (by simp))⟩
/-- what joinS asks for -/
def askJ (xs : List Itm) : ByteArray → Nat → Bool := fun _ _ => have _u := xs; true
set_option maxRecDepth 100000 in
set_option maxHeartbeats 1000000 in
theorem askJ_any (a : Option Addr) (c : Nat) (xs : List Itm) (m : ByteArray) (n : Nat) (W : World) (hx : ItemsAt W a xs) (hne : xs ≠ []) (hxl : xs.length ≤ 1500000) : Calls Tryz.prog 104 #[.string m, .int .i64 n] W fun e w' => e = .returned (.bool (askJ xs m n)) ∧ Below W.heap.size W w' := by
  have _u1 := hx
  have _u2 := hne
  have _u3 := hxl
  have _u4 := c
  clear _u1 _u2 _u3 _u4 hx
  go_enter Tryz.func104, Tryz.ntmps104
  go_wp2_with fail
  go_ret
  exact ⟨rfl, Below.refl _ _⟩

set_option maxRecDepth 100000 in
set_option maxHeartbeats 1000000 in
theorem joinS_own2 (a : Option Addr) (c : Nat) (xs : List Itm) (w : World) (hx : ItemsAt w a xs) (hxl : xs.length ≤ 1500000) (HSUM : Hid ((xs.map Itm.l).flatten.length ≤ 1500000 ∨ xs.length ≤ 50000)) (SE : Int) (TL : List ByteArray) (HS : Hid (SE = setsF xs ∧ TL = if setsF xs = 0 then thoseL (askJ xs) (xs.map Itm.l) else [])) :
    Calls Tryz.prog 41 #[.slice a xs.length c] w fun e w' => ∃ a' cap, e = .returned (.tuple #[.slice a' TL.length cap, .int .i64 SE]) ∧ (∀ W, (∀ g o u, w.heap.size ≤ g → w'.cell? ⟨g, o, none⟩ = some u → w'.frozen? ⟨g, o, none⟩ = false → W.cell? ⟨g, o, none⟩ = some u) → TextsAt W a' TL) ∧ Below w.heap.size w w' := by
  have HB : Hid (∀ W, Below w.heap.size w W → Calls Tryz.prog 102 #[.slice a xs.length c, .func (.func 104) #[] #[]] W fun e w' => ∃ a' cap, e = .returned (.tuple #[.slice a' TL.length cap, .int .i64 SE]) ∧ (∀ W', (∀ g o u, W.heap.size ≤ g → w'.cell? ⟨g, o, none⟩ = some u → w'.frozen? ⟨g, o, none⟩ = false → W'.cell? ⟨g, o, none⟩ = some u) → TextsAt W' a' TL) ∧ Below W.heap.size W w') := fun W hW => by
    by_cases hne : xs = []
    · subst hne
      obtain ⟨e1, e2⟩ := HS.out
      have h1 : SE = 1 := e1
      have h2 : TL = [] := e2
      subst h1 h2
      exact those_none a c _ W
    · have e : setsF xs = setsE xs := if_neg hne
      refine thoseJ_some (askJ xs) a c xs W (hx.below hW) hne hxl HSUM SE TL (by rw [← e]; exact HS.out) (fun W2 m n hW2 => ?_)
      exact askJ_any a c xs m n W2 (hx.below (hW.trans (hW2.mono hW.size))) hne hxl
  clear hx HS
  go_enter Tryz.func41, Tryz.ntmps41
  go_wp2_with fail
  refine (HB.out _ (Below.refl _ w)).mono ?_
  rintro e w1 ⟨a', cap, rfl, hT, hb⟩
  have HT := hide hT
  clear hT HB
  go_wp2_with fail
  refine bodyPost_ret (v := .tuple #[.slice a' TL.length cap, .int .i64 SE]) (by simp [results, Tryz.results41, go_sem]) rfl ⟨a', cap, rfl, fun W hW => HT.out W (fun g o u hg hu hf => hW g o u (hg) hu hf), hb⟩
/-- what less asks for -/
def askL1 (xs : List Itm) : ByteArray → Nat → Bool := fun m n => decide (n = 1) && hasT (xs.headD Itm.none).l m
set_option maxRecDepth 100000 in
set_option maxHeartbeats 1000000 in
theorem askL1_any (b : Nat) (a : Option Addr) (c : Nat) (xs : List Itm) (m : ByteArray) (n : Nat) (W : World) (hx : ItemsAt W a xs) (hne : xs ≠ []) (hxl : xs.length ≤ 1500000) (hc : W.cell? ⟨b, 0, none⟩ = some (.slice a xs.length c)) : Calls Tryz.prog 147 #[.string m, .int .i64 n, .pointer (some ⟨b, 0, none⟩)] W fun e w' => e = .returned (.bool (askL1 xs m n)) ∧ Below W.heap.size W w' := by
  obtain ⟨g, o, rfl, hcs⟩ := hx.resolve_left hne
  have hpos : 0 < xs.length := List.length_pos_iff.2 hne
  obtain ⟨a1, c1, a2, c2, a3, c3, ⟨-, -, d2, -, -⟩, hI⟩ := hcs 0 hpos
  rw [Nat.zero_mul, Nat.add_zero] at d2
  obtain ⟨hT1, hTn⟩ : TextsAt W a1 xs[0].l ∧ xs[0].l.length ≤ 281474976710656 := by
    obtain ⟨⟨b1, q1, b2, q2, b3, q3, e, t1, -, -⟩, -, -, -, -, hl1, -, -⟩ := hI
    injection e with e
    have e' := congrArg (fun z => z[2]?) e
    simp at e'
    obtain ⟨rfl, _⟩ := e'
    exact ⟨t1, hl1⟩
  have HN := hide (contains_any a1 c1 xs[0].l m W hT1 hTn)
  have hP : askL1 xs m n = (decide (n = 1) && hasT xs[0].l m) := by
    cases xs with
    | nil => exact absurd rfl hne
    | cons y r => rfl
  rw [hP]
  have hpos' : (0 : Int) < ((xs.length : Nat) : Int) := by omega
  clear hcs hI hT1 hP hne
  generalize xs[0].l.length = nl at *
  generalize hasT xs[0].l m = R at *
  by_cases hn : n = 1
  · subst hn
    rw [decide_eq_true rfl, Bool.true_and]
    go_enter Tryz.func147, Tryz.ntmps147
    go_wp2_with fail
    refine HN.out.mono ?_
    rintro e w1 ⟨rfl, rfl⟩
    go_wp2_with fail
    go_ret
    exact ⟨rfl, Below.refl _ _⟩
  · rw [decide_eq_false hn, Bool.false_and]
    have hn' : ¬ ((n : Nat) : Int) = 1 := by omega
    go_enter Tryz.func147, Tryz.ntmps147
    go_wp2_with fail
    go_ret
    exact ⟨rfl, Below.refl _ _⟩

set_option maxRecDepth 100000 in
set_option maxHeartbeats 1000000 in
theorem lessS_own2 (a : Option Addr) (c : Nat) (xs : List Itm) (w : World) (hx : ItemsAt w a xs) (hxl : xs.length ≤ 1500000) (HSUM : Hid ((xs.map Itm.l).flatten.length ≤ 1500000 ∨ xs.length ≤ 50000)) (SE : Int) (TL : List ByteArray) (HS : Hid (SE = setsF xs ∧ TL = if setsF xs = 0 then thoseL (askL1 xs) (xs.map Itm.l) else [])) :
    Calls Tryz.prog 77 #[.slice a xs.length c] w fun e w' => ∃ a' cap, e = .returned (.tuple #[.slice a' TL.length cap, .int .i64 SE]) ∧ (∀ W, (∀ g o u, w.heap.size ≤ g → w'.cell? ⟨g, o, none⟩ = some u → w'.frozen? ⟨g, o, none⟩ = false → W.cell? ⟨g, o, none⟩ = some u) → TextsAt W a' TL) ∧ Below w.heap.size w w' := by
  have HB : Hid (∀ W, ∀ b, W.cell? ⟨b, 0, none⟩ = some (.slice a xs.length c) → Below w.heap.size w W → Calls Tryz.prog 102 #[.slice a xs.length c, .func (.func 147) #[] #[.pointer (some ⟨b, 0, none⟩)]] W fun e w' => ∃ a' cap, e = .returned (.tuple #[.slice a' TL.length cap, .int .i64 SE]) ∧ (∀ W', (∀ g o u, W.heap.size ≤ g → w'.cell? ⟨g, o, none⟩ = some u → w'.frozen? ⟨g, o, none⟩ = false → W'.cell? ⟨g, o, none⟩ = some u) → TextsAt W' a' TL) ∧ Below W.heap.size W w') := fun W b hcb hW => by
    by_cases hne : xs = []
    · subst hne
      obtain ⟨e1, e2⟩ := HS.out
      have h1 : SE = 1 := e1
      have h2 : TL = [] := e2
      subst h1 h2
      exact those_none a c _ W
    · have e : setsF xs = setsE xs := if_neg hne
      refine thoseL_some b (askL1 xs) a c xs W (hx.below hW) hne hxl HSUM SE TL (by rw [← e]; exact HS.out) (fun W2 m n hW2 => ?_)
      exact askL1_any b a c xs m n W2 (hx.below (hW.trans (hW2.mono hW.size))) hne hxl ((hW2.cell (p := ⟨b, 0, none⟩) (World.block_lt_of_cell? _ _ hcb)).trans hcb)
  clear hx HS
  go_enter Tryz.func77, Tryz.ntmps77
  go_wp2_with fail
  refine (HB.out _ w.heap.size (by simp [go_sem]) ((Below.refl _ w).alloc (Nat.le_refl _) _)).mono ?_
  rintro e w1 ⟨a', cap, rfl, hT, hb⟩
  have HT := hide hT
  clear hT HB
  go_wp2_with fail
  refine bodyPost_ret (v := .tuple #[.slice a' TL.length cap, .int .i64 SE]) (by simp [results, Tryz.results77, go_sem]) rfl ⟨a', cap, rfl, fun W hW => HT.out W (fun g o u hg hu hf => hW g o u (by simp at hg; omega) hu hf), ((Below.refl _ w).alloc (Nat.le_refl _) _).trans (hb.mono (by simp))⟩
theorem meet_own (a : Option Addr) (c : Nat) (xs : List Itm) (w : World) (hx : ItemsAt w a xs) (hxl : xs.length ≤ 1500000) (hsum : (xs.map Itm.l).flatten.length ≤ 1500000) (SE : Int) (TL : List ByteArray) (HS : Hid (SE = setsF xs ∧ TL = if setsF xs = 0 then thoseL (askM xs) (xs.map Itm.l) else [])) :
    Calls Tryz.prog 40 #[.slice a xs.length c] w fun e w' => ∃ a' cap, e = .returned (.tuple #[.slice a' TL.length cap, .int .i64 SE]) ∧ (∀ W, (∀ g o u, w.heap.size ≤ g → w'.cell? ⟨g, o, none⟩ = some u → w'.frozen? ⟨g, o, none⟩ = false → W.cell? ⟨g, o, none⟩ = some u) → TextsAt W a' TL) ∧ Below w.heap.size w w' :=
  meet_own2 a c xs w hx hxl (hide (.inl hsum)) SE TL HS
theorem meet_any (a : Option Addr) (c : Nat) (xs : List Itm) (w : World) (hx : ItemsAt w a xs) (hxl : xs.length ≤ 1500000) (hsum : (xs.map Itm.l).flatten.length ≤ 1500000) (SE : Int) (TL : List ByteArray) (HS : Hid (SE = setsF xs ∧ TL = if setsF xs = 0 then thoseL (askM xs) (xs.map Itm.l) else [])) :
    Calls Tryz.prog 40 #[.slice a xs.length c] w fun e w' => ∃ a' cap, e = .returned (.tuple #[.slice a' TL.length cap, .int .i64 SE]) ∧ (∀ W, (∀ g o u, w.heap.size ≤ g → w'.cell? ⟨g, o, none⟩ = some u → W.cell? ⟨g, o, none⟩ = some u) → TextsAt W a' TL) ∧ Below w.heap.size w w' :=
  (meet_own a c xs w hx hxl hsum SE TL HS).mono fun _ _ ⟨a, c, he, hi, hb⟩ => ⟨a, c, he, fun W hW => hi W (fun g o u hg hu _ => hW g o u hg hu), hb⟩
theorem joinS_own (a : Option Addr) (c : Nat) (xs : List Itm) (w : World) (hx : ItemsAt w a xs) (hxl : xs.length ≤ 1500000) (hsum : (xs.map Itm.l).flatten.length ≤ 1500000) (SE : Int) (TL : List ByteArray) (HS : Hid (SE = setsF xs ∧ TL = if setsF xs = 0 then thoseL (askJ xs) (xs.map Itm.l) else [])) :
    Calls Tryz.prog 41 #[.slice a xs.length c] w fun e w' => ∃ a' cap, e = .returned (.tuple #[.slice a' TL.length cap, .int .i64 SE]) ∧ (∀ W, (∀ g o u, w.heap.size ≤ g → w'.cell? ⟨g, o, none⟩ = some u → w'.frozen? ⟨g, o, none⟩ = false → W.cell? ⟨g, o, none⟩ = some u) → TextsAt W a' TL) ∧ Below w.heap.size w w' :=
  joinS_own2 a c xs w hx hxl (hide (.inl hsum)) SE TL HS
theorem joinS_any (a : Option Addr) (c : Nat) (xs : List Itm) (w : World) (hx : ItemsAt w a xs) (hxl : xs.length ≤ 1500000) (hsum : (xs.map Itm.l).flatten.length ≤ 1500000) (SE : Int) (TL : List ByteArray) (HS : Hid (SE = setsF xs ∧ TL = if setsF xs = 0 then thoseL (askJ xs) (xs.map Itm.l) else [])) :
    Calls Tryz.prog 41 #[.slice a xs.length c] w fun e w' => ∃ a' cap, e = .returned (.tuple #[.slice a' TL.length cap, .int .i64 SE]) ∧ (∀ W, (∀ g o u, w.heap.size ≤ g → w'.cell? ⟨g, o, none⟩ = some u → W.cell? ⟨g, o, none⟩ = some u) → TextsAt W a' TL) ∧ Below w.heap.size w w' :=
  (joinS_own a c xs w hx hxl hsum SE TL HS).mono fun _ _ ⟨a, c, he, hi, hb⟩ => ⟨a, c, he, fun W hW => hi W (fun g o u hg hu _ => hW g o u hg hu), hb⟩
theorem lessS_own (a : Option Addr) (c : Nat) (xs : List Itm) (w : World) (hx : ItemsAt w a xs) (hxl : xs.length ≤ 1500000) (hsum : (xs.map Itm.l).flatten.length ≤ 1500000) (SE : Int) (TL : List ByteArray) (HS : Hid (SE = setsF xs ∧ TL = if setsF xs = 0 then thoseL (askL1 xs) (xs.map Itm.l) else [])) :
    Calls Tryz.prog 77 #[.slice a xs.length c] w fun e w' => ∃ a' cap, e = .returned (.tuple #[.slice a' TL.length cap, .int .i64 SE]) ∧ (∀ W, (∀ g o u, w.heap.size ≤ g → w'.cell? ⟨g, o, none⟩ = some u → w'.frozen? ⟨g, o, none⟩ = false → W.cell? ⟨g, o, none⟩ = some u) → TextsAt W a' TL) ∧ Below w.heap.size w w' :=
  lessS_own2 a c xs w hx hxl (hide (.inl hsum)) SE TL HS
theorem lessS_any (a : Option Addr) (c : Nat) (xs : List Itm) (w : World) (hx : ItemsAt w a xs) (hxl : xs.length ≤ 1500000) (hsum : (xs.map Itm.l).flatten.length ≤ 1500000) (SE : Int) (TL : List ByteArray) (HS : Hid (SE = setsF xs ∧ TL = if setsF xs = 0 then thoseL (askL1 xs) (xs.map Itm.l) else [])) :
    Calls Tryz.prog 77 #[.slice a xs.length c] w fun e w' => ∃ a' cap, e = .returned (.tuple #[.slice a' TL.length cap, .int .i64 SE]) ∧ (∀ W, (∀ g o u, w.heap.size ≤ g → w'.cell? ⟨g, o, none⟩ = some u → W.cell? ⟨g, o, none⟩ = some u) → TextsAt W a' TL) ∧ Below w.heap.size w w' :=
  (lessS_own a c xs w hx hxl hsum SE TL HS).mono fun _ _ ⟨a, c, he, hi, hb⟩ => ⟨a, c, he, fun W hW => hi W (fun g o u hg hu _ => hW g o u hg hu), hb⟩
end Go.Proofs.YtcidoodaiimhfaaGreat

/- WALK of setBegun. -/
namespace Go.Proofs.YtcidoodaiimhfaaGreat
open Go.RowKit

def sA : ByteArray := ⟨#[97]⟩
def sB : ByteArray := ⟨#[98]⟩
def tZ : ByteArray := ⟨#[122]⟩
def bgX : Itm := ⟨3, ⟨#[]⟩, [sA, sB], [], []⟩
def bgY : Itm := ⟨3, ⟨#[]⟩, [sB], [], []⟩
theorem tAB : lessT sA sB := by unfold lessT sA sB; decide
theorem none_as : asI Itm.none 3 = 0 := by
  have : Itm.none.isNone = true := by simp [Itm.isNone, Itm.none]
  rw [asI, if_pos this]
theorem set_as {l : List ByteArray} (hr : Rises l) (hne : l ≠ []) (h24 : l.length ≤ 24) (hz : ∀ t ∈ l, t.size ≤ 60) : asI ⟨3, ⟨#[]⟩, l, [], []⟩ 3 = 0 := by
  have h1 : chkI ⟨3, ⟨#[]⟩, l, [], []⟩ = 0 := by
    unfold chkI
    have ho : otherI ⟨3, ⟨#[]⟩, l, [], []⟩ = false := by simp [otherI]
    have hs : sizeT l.length (l.any longT) = 0 := by
      have h2 : l.any longT = false := by
        rw [List.any_eq_false]
        intro t ht
        have := hz t ht
        simp [longT]
        omega
      have h3 : l.length ≠ 0 := fun e => hne (List.eq_nil_of_length_eq_zero e)
      unfold sizeT
      rw [if_neg h3, if_neg (by simp [h2]; omega)]
    rw [if_neg (by simp), ho, if_neg (by decide), if_neg (by simp), if_pos rfl]
    unfold setT
    rw [if_neg (by simp [hs]), if_pos (riseTo_of_rises hr)]
  unfold asI
  split
  · rfl
  · rw [if_neg (by simp [h1]), if_neg (by simp)]
theorem rises_AB : Rises [sA, sB] := by simp [Rises, tAB]
theorem rises_B : Rises [sB] := by simp [Rises]
theorem short_A : sA.size = 1 := rfl
theorem short_B : sB.size = 1 := rfl
theorem bgX_as : asI bgX 3 = 0 := set_as rises_AB (by simp) (by simp) (by simp [short_A, short_B])
theorem bgY_as : asI bgY 3 = 0 := set_as rises_B (by simp) (by simp) (by simp [short_B])
theorem bg_addT : addT [] [sB, sA, sB] = [sA, sB] := rises_unique (rises_addT List.Pairwise.nil) rises_AB (fun x => by
  rw [mem_addT]
  simp
  exact fun h => .inr h)
theorem bg_add : addE Itm.none [sB, sA, sB] = 0 ∧ addN Itm.none [sB, sA, sB] = 2 ∧ addI Itm.none [sB, sA, sB] = bgX := by
  have e : Itm.none.l = [] := rfl
  have h1 : addE Itm.none [sB, sA, sB] = 0 := by
    rw [addE, if_neg (by simp [none_as]), e, bg_addT, if_neg (by simp [longT, short_A, short_B]), if_neg (by simp)]
  refine ⟨h1, ?_, ?_⟩
  · rw [addN, if_pos h1, e, bg_addT]; rfl
  · rw [addI, if_pos h1, e, bg_addT]; rfl
theorem ne_AB : ¬ sA = sB := fun e => lessT_irrefl sB (e ▸ tAB)
theorem ne_BA : ¬ sB = sA := fun e => ne_AB e.symm
theorem ne_BZ : ¬ sB = tZ := fun e => by
  have : sB.data = tZ.data := congrArg ByteArray.data e
  exact absurd this (by decide)
theorem bg_rem : remofN bgX 3 [sA, tZ] = 1 ∧ remofI bgX 3 [sA, tZ] = bgY := by
  have e : lessK bgX.l [sA, tZ] = [sB] := by
    rw [less_stay]
    have h1 : hasT [sA, tZ] sA = true := hasT_iff.2 (by simp)
    have h2 : hasT [sA, tZ] sB = false := hasT_not (by simp [ne_BA, ne_BZ])
    simp [stayL, bgX, h1, h2]
  rw [remofN, remofI, if_pos bgX_as, if_pos bgX_as, e]
  exact ⟨rfl, rfl⟩
theorem bg_has : hasE bgX sB = true := by
  rw [hasE, if_pos bgX_as]
  exact hasT_iff.2 (by simp [bgX])
theorem bg_E : setsF [bgX, bgY] = 0 := by
  rw [setsF, if_neg (by simp)]
  exact setsE_all (by simp [bgX_as, bgY_as])
theorem bg_cnt : cntL [[sA, sB], [sB]] sA = 1 ∧ cntL [[sA, sB], [sB]] sB = 2 := by
  have h1 : hasT [sA, sB] sA = true := hasT_iff.2 (by simp)
  have h2 : hasT [sB] sA = false := hasT_not (by simp [ne_AB])
  have h3 : hasT [sA, sB] sB = true := hasT_iff.2 (by simp)
  have h4 : hasT [sB] sB = true := hasT_iff.2 (by simp)
  simp [cntL, h1, h2, h3, h4]
theorem bg_meet : thoseL (askM [bgX, bgY]) ([bgX, bgY].map Itm.l) = [sB] := rises_unique (thoseL_rises _ _) rises_B (fun x => by
  rw [mem_thoseL]
  show (∃ l ∈ [[sA, sB], [sB]], x ∈ l) ∧ decide (cntL [[sA, sB], [sB]] x = 2) = true ↔ _
  rw [decide_eq_true_eq]
  simp
  constructor
  · rintro ⟨h | h, h2⟩
    · subst h; rw [bg_cnt.1] at h2; cases h2
    · exact h
  · intro h; subst h; exact ⟨.inr rfl, bg_cnt.2⟩)
theorem bg_join : thoseL (askJ [bgX, bgY]) ([bgX, bgY].map Itm.l) = [sA, sB] := rises_unique (thoseL_rises _ _) rises_AB (fun x => by
  rw [mem_thoseL]
  show (∃ l ∈ [[sA, sB], [sB]], x ∈ l) ∧ true = true ↔ _
  simp)
theorem bg_less : thoseL (askL1 [bgX, bgY]) ([bgX, bgY].map Itm.l) = [sA] := rises_unique (thoseL_rises _ _) (by simp [Rises]) (fun x => by
  rw [mem_thoseL]
  show (∃ l ∈ [[sA, sB], [sB]], x ∈ l) ∧ (decide (cntL [[sA, sB], [sB]] x = 1) && hasT [sA, sB] x) = true ↔ _
  rw [Bool.and_eq_true, decide_eq_true_eq, hasT_iff]
  simp
  constructor
  · rintro ⟨_, h2, h | h⟩
    · exact h
    · subst h; rw [bg_cnt.2] at h2; cases h2
  · intro h; subst h; exact ⟨.inl rfl, bg_cnt.1, .inl rfl⟩)
/-- two items laid side by side -/
theorem items_two {w : World} {X Y : Itm} {kX kY : Int} {tX tY : ByteArray} {aX1 aX2 aX3 aY1 aY2 aY3 : Option Addr} {nX1 nX2 nX3 nY1 nY2 nY3 cX1 cX2 cX3 cY1 cY2 cY3 : Nat} (hx : ItemIs w (.agg #[.int .i64 kX, .string tX, .slice aX1 nX1 cX1, .slice aX2 nX2 cX2, .slice aX3 nX3 cX3]) X) (hy : ItemIs w (.agg #[.int .i64 kY, .string tY, .slice aY1 nY1 cY1, .slice aY2 nY2 cY2, .slice aY3 nY3 cY3]) Y) (T : Nat) (g : Nat) (hg : g = w.heap.size) :
    ItemsAt (w.alloc (.cells #[.int .i64 kX, .string tX, .slice aX1 nX1 cX1, .slice aX2 nX2 cX2, .slice aX3 nX3 cX3, .int .i64 kY, .string tY, .slice aY1 nY1 cY1, .slice aY2 nY2 cY2, .slice aY3 nY3 cY3] T)) (some ⟨g, 0, none⟩) [X, Y] := by
  subst hg
  have hb : Below w.heap.size w (w.alloc (.cells #[.int .i64 kX, .string tX, .slice aX1 nX1 cX1, .slice aX2 nX2 cX2, .slice aX3 nX3 cX3, .int .i64 kY, .string tY, .slice aY1 nY1 cY1, .slice aY2 nY2 cY2, .slice aY3 nY3 cY3] T)) := (Below.refl _ _).alloc (Nat.le_refl _) _
  have hx' := hx
  have hy' := hy
  obtain ⟨⟨b1, q1, b2, q2, b3, q3, e, -, -, -⟩, -, -, -, -, -, -, -⟩ := hx'
  obtain ⟨⟨d1, r1, d2, r2, d3, r3, f, -, -, -⟩, -, -, -, -, -, -, -⟩ := hy'
  injection e with e
  injection f with f
  simp at e f
  obtain ⟨rfl, rfl, ⟨rfl, rfl, rfl⟩, ⟨rfl, rfl, rfl⟩, rfl, rfl, rfl⟩ := e
  obtain ⟨rfl, rfl, ⟨rfl, rfl, rfl⟩, ⟨rfl, rfl, rfl⟩, rfl, rfl, rfl⟩ := f
  refine .inr ⟨w.heap.size, 0, rfl, fun i hi => ?_⟩
  match i, hi with
  | 0, _ => exact ⟨_, _, _, _, _, _, ⟨by simp [go_sem], by simp [go_sem], by simp [go_sem], by simp [go_sem], by simp [go_sem]⟩, hx.below hb⟩
  | 1, _ => exact ⟨_, _, _, _, _, _, ⟨by simp [go_sem], by simp [go_sem], by simp [go_sem], by simp [go_sem], by simp [go_sem]⟩, hy.below hb⟩
theorem ItemIs.shapeS {w : World} {v : Value} {x : Itm} (h : ItemIs w v x) : ∃ k t a1 n1 c1 a2 n2 c2 a3 n3 c3, v = .agg #[.int .i64 k, .string t, .slice a1 n1 c1, .slice a2 n2 c2, .slice a3 n3 c3] := by
  obtain ⟨⟨a1, c1, a2, c2, a3, c3, e, -, -, -⟩, -, -, -, -, -, -, -⟩ := h
  exact ⟨_, _, _, _, _, _, _, _, _, _, _, e⟩
theorem ones_texts (w : World) (t1 : ByteArray) (T : TypeId) (g : Nat) (hg : g = w.heap.size) : TextsAt (w.alloc (.cells #[.string t1] T)) (some ⟨g, 0, none⟩) [t1] := by
  subst hg
  refine .inr ⟨w.heap.size, 0, rfl, fun i hi => ?_⟩
  match i, hi with
  | 0, _ => simp [go_sem]
theorem two_textsS (w : World) (t1 t2 : ByteArray) (T : TypeId) (g : Nat) (hg : g = w.heap.size) : TextsAt (w.alloc (.cells #[.string t1, .string t2] T)) (some ⟨g, 0, none⟩) [t1, t2] := by
  subst hg
  refine .inr ⟨w.heap.size, 0, rfl, fun i hi => ?_⟩
  match i, hi with
  | 0, _ => simp [go_sem]
  | 1, _ => simp [go_sem]
theorem three_texts (w : World) (t1 t2 t3 : ByteArray) (T : TypeId) (g : Nat) (hg : g = w.heap.size) : TextsAt (w.alloc (.cells #[.string t1, .string t2, .string t3] T)) (some ⟨g, 0, none⟩) [t1, t2, t3] := by
  subst hg
  refine .inr ⟨w.heap.size, 0, rfl, fun i hi => ?_⟩
  match i, hi with
  | 0, _ => simp [go_sem]
  | 1, _ => simp [go_sem]
  | 2, _ => simp [go_sem]
theorem short_txt : ∀ t ∈ [sB, sA, sB], t.size ≤ maxLen := by simp [short_A, short_B, maxLen]
set_option maxRecDepth 100000 in
set_option maxHeartbeats 8000000 in
theorem setBegun_any (w : World) : Calls Tryz.prog 28 #[] w fun e w' => e = .returned (.bool true) ∧ Below w.heap.size w w' := by
  have HA : Hid (∀ W ad, TextsAt W (some ad) [⟨#[98]⟩, ⟨#[97]⟩, ⟨#[98]⟩] → Calls Tryz.prog 38 #[.agg #[.int .i64 0, .string ⟨#[]⟩, .slice none 0 0, .slice none 0 0, .slice none 0 0], .slice (some ad) 3 3] W fun e w' => ∃ u, (e = .returned (.tuple #[u, .int .i64 2, .int .i64 0]) ∧ ItemIs w' u bgX) ∧ Below W.heap.size W w') := fun W ad h => by
    have hh := setAdd_any _ Itm.none (some ad) 3 [sB, sA, sB] W (zero_is W) h short_txt (by simp)
    rw [bg_add.1, bg_add.2.1, bg_add.2.2] at hh
    exact hh.mono fun e w' ⟨u, h1, h2, h3⟩ => ⟨u, ⟨h1, h2.is⟩, h3⟩
  have HR : Hid (∀ v W ad, ItemIs W v bgX → TextsAt W (some ad) [⟨#[97]⟩, ⟨#[122]⟩] → Calls Tryz.prog 39 #[v, .slice (some ad) 2 2] W fun e w' => ∃ u, (e = .returned (.tuple #[u, .int .i64 1, .int .i64 0]) ∧ ItemIs w' u bgY) ∧ Below W.heap.size W w') := fun v W ad hv h => by
    have hh := setRemove_any v bgX (some ad) 2 [sA, tZ] W hv h (by simp)
    rw [bg_rem.1, bg_rem.2, bgX_as] at hh
    exact hh.mono fun e w' ⟨u, h1, h2, h3⟩ => ⟨u, ⟨h1, h2.is⟩, h3⟩
  have HH : Hid (∀ v W, ItemIs W v bgX → Calls Tryz.prog 76 #[v, .string ⟨#[98]⟩] W fun e w' => e = .returned (.tuple #[.bool true, .int .i64 0]) ∧ Below W.heap.size W w') := fun v W hv => by
    have hh := has_any v bgX sB W hv
    rw [bg_has, bgX_as] at hh
    exact hh
  have HM : Hid (∀ W ad, ItemsAt W (some ad) [bgX, bgY] → Calls Tryz.prog 40 #[.slice (some ad) 2 2] W fun e w' => (∃ a c, e = .returned (.tuple #[.slice a 1 c, .int .i64 0]) ∧ TextsAt w' a [⟨#[98]⟩]) ∧ Below W.heap.size W w') := fun W ad h => (meet_any (some ad) 2 [bgX, bgY] W h (by simp) (by simp [bgX, bgY]) 0 [sB] ⟨bg_E.symm, by rw [if_pos bg_E, bg_meet]⟩).mono fun e w' ⟨a, c, h1, h2, h3⟩ => ⟨⟨a, c, h1, h2 w' (fun _ _ _ _ h => h)⟩, h3⟩
  have HJ : Hid (∀ W ad, ItemsAt W (some ad) [bgX, bgY] → Calls Tryz.prog 41 #[.slice (some ad) 2 2] W fun e w' => (∃ a c, e = .returned (.tuple #[.slice a 2 c, .int .i64 0]) ∧ TextsAt w' a [⟨#[97]⟩, ⟨#[98]⟩]) ∧ Below W.heap.size W w') := fun W ad h => (joinS_any (some ad) 2 [bgX, bgY] W h (by simp) (by simp [bgX, bgY]) 0 [sA, sB] ⟨bg_E.symm, by rw [if_pos bg_E, bg_join]⟩).mono fun e w' ⟨a, c, h1, h2, h3⟩ => ⟨⟨a, c, h1, h2 w' (fun _ _ _ _ h => h)⟩, h3⟩
  have HL : Hid (∀ W ad, ItemsAt W (some ad) [bgX, bgY] → Calls Tryz.prog 77 #[.slice (some ad) 2 2] W fun e w' => (∃ a c, e = .returned (.tuple #[.slice a 1 c, .int .i64 0]) ∧ TextsAt w' a [⟨#[97]⟩]) ∧ Below W.heap.size W w') := fun W ad h => (lessS_any (some ad) 2 [bgX, bgY] W h (by simp) (by simp [bgX, bgY]) 0 [sA] ⟨bg_E.symm, by rw [if_pos bg_E, bg_less]⟩).mono fun e w' ⟨a, c, h1, h2, h3⟩ => ⟨⟨a, c, h1, h2 w' (fun _ _ _ _ h => h)⟩, h3⟩
  have HSM : Hid (∀ a c b W, TextsAt W a [⟨#[98]⟩] → TextsAt W (some b) [⟨#[98]⟩] → Calls Tryz.prog 24 #[.slice a 1 c, .slice (some b) 1 1] W fun e w' => e = .returned (.bool true) ∧ Below W.heap.size W w') := fun a c b W h1 h2 => by
    have hh := sameT_any a (some b) c 1 _ _ W h1 h2 (by simp)
    rw [decide_eq_true rfl] at hh
    exact hh
  have HSJ : Hid (∀ a c b W, TextsAt W a [⟨#[97]⟩, ⟨#[98]⟩] → TextsAt W (some b) [⟨#[97]⟩, ⟨#[98]⟩] → Calls Tryz.prog 24 #[.slice a 2 c, .slice (some b) 2 2] W fun e w' => e = .returned (.bool true) ∧ Below W.heap.size W w') := fun a c b W h1 h2 => by
    have hh := sameT_any a (some b) c 2 _ _ W h1 h2 (by simp)
    rw [decide_eq_true rfl] at hh
    exact hh
  have HSL : Hid (∀ a c b W, TextsAt W a [⟨#[97]⟩] → TextsAt W (some b) [⟨#[97]⟩] → Calls Tryz.prog 24 #[.slice a 1 c, .slice (some b) 1 1] W fun e w' => e = .returned (.bool true) ∧ Below W.heap.size W w') := fun a c b W h1 h2 => by
    have hh := sameT_any a (some b) c 1 _ _ W h1 h2 (by simp)
    rw [decide_eq_true rfl] at hh
    exact hh
  go_enter Tryz.func28, Tryz.ntmps28
  go_wp2_with fail
  have C_0 : Below w.heap.size w (w.alloc (.cells #[.string ⟨#[98]⟩, .string ⟨#[97]⟩, .string ⟨#[98]⟩] 9)) := (Below.refl _ w).alloc (Nat.le_refl _) _
  refine (HA.out _ _ (by exact three_texts _ _ _ _ _ _ (by simp))).mono ?_
  rintro e w1 ⟨uX, ⟨rfl, iX⟩, hb1⟩
  have C_1 : Below w.heap.size w w1 := C_0.trans (hb1.mono C_0.size)
  clear C_0
  clear hb1
  obtain ⟨kX, tX, aX1, nX1, cX1, aX2, nX2, cX2, aX3, nX3, cX3, rfl⟩ := iX.shapeS
  have IX_3 := hide (iX)
  clear iX
  go_wp2_with fail
  have IX_4 := hide (IX_3.out.below ((Below.refl _ w1).alloc (Nat.le_refl _) (.cells #[.int .i64 kX, .string tX, .slice aX1 nX1 cX1, .slice aX2 nX2 cX2, .slice aX3 nX3 cX3] 28)))
  clear IX_3
  have C_5 : Below w.heap.size w (w1.alloc (.cells #[.int .i64 kX, .string tX, .slice aX1 nX1 cX1, .slice aX2 nX2 cX2, .slice aX3 nX3 cX3] 28)) := C_1.alloc C_1.size (.cells #[.int .i64 kX, .string tX, .slice aX1 nX1 cX1, .slice aX2 nX2 cX2, .slice aX3 nX3 cX3] 28)
  clear C_1
  have X_6 := hide (BoxAt.new w1 (.int .i64 kX) (.string tX) (.slice aX1 nX1 cX1) (.slice aX2 nX2 cX2) (.slice aX3 nX3 cX3) 28)
  have IX_7 := hide (IX_4.out.below ((Below.refl _ (w1.alloc (.cells #[.int .i64 kX, .string tX, .slice aX1 nX1 cX1, .slice aX2 nX2 cX2, .slice aX3 nX3 cX3] 28))).alloc (Nat.le_refl _) (.cells #[.string ⟨#[97]⟩, .string ⟨#[122]⟩] 9)))
  clear IX_4
  have X_8 := hide (X_6.out.below ((Below.refl _ (w1.alloc (.cells #[.int .i64 kX, .string tX, .slice aX1 nX1 cX1, .slice aX2 nX2 cX2, .slice aX3 nX3 cX3] 28))).alloc (Nat.le_refl _) (.cells #[.string ⟨#[97]⟩, .string ⟨#[122]⟩] 9)))
  clear X_6
  have C_9 : Below w.heap.size w ((w1.alloc (.cells #[.int .i64 kX, .string tX, .slice aX1 nX1 cX1, .slice aX2 nX2 cX2, .slice aX3 nX3 cX3] 28)).alloc (.cells #[.string ⟨#[97]⟩, .string ⟨#[122]⟩] 9)) := C_5.alloc C_5.size (.cells #[.string ⟨#[97]⟩, .string ⟨#[122]⟩] 9)
  clear C_5
  refine (HR.out _ _ _ IX_7.out (by exact two_textsS _ _ _ _ _ (by simp))).mono ?_
  rintro e w2 ⟨uY, ⟨rfl, iY⟩, hb2⟩
  have C_10 : Below w.heap.size w w2 := C_9.trans (hb2.mono C_9.size)
  clear C_9
  have IX_11 := hide (IX_7.out.below hb2)
  have X_11 := hide (X_8.out.below hb2)
  clear IX_7 X_8
  clear hb2
  obtain ⟨kY, tY, aY1, nY1, cY1, aY2, nY2, cY2, aY3, nY3, cY3, rfl⟩ := iY.shapeS
  have IY_12 := hide (iY)
  clear iY
  obtain ⟨xc0, xc1, xc2, xc3, xc4, xlt⟩ := X_11.out
  go_wp2_with fail
  have IX_13 := hide (IX_11.out.below ((Below.refl _ w2).alloc (Nat.le_refl _) (.cells #[.int .i64 kY, .string tY, .slice aY1 nY1 cY1, .slice aY2 nY2 cY2, .slice aY3 nY3 cY3] 28)))
  clear IX_11
  have X_14 := hide (X_11.out.below ((Below.refl _ w2).alloc (Nat.le_refl _) (.cells #[.int .i64 kY, .string tY, .slice aY1 nY1 cY1, .slice aY2 nY2 cY2, .slice aY3 nY3 cY3] 28)))
  clear X_11
  have IY_15 := hide (IY_12.out.below ((Below.refl _ w2).alloc (Nat.le_refl _) (.cells #[.int .i64 kY, .string tY, .slice aY1 nY1 cY1, .slice aY2 nY2 cY2, .slice aY3 nY3 cY3] 28)))
  clear IY_12
  have C_16 : Below w.heap.size w (w2.alloc (.cells #[.int .i64 kY, .string tY, .slice aY1 nY1 cY1, .slice aY2 nY2 cY2, .slice aY3 nY3 cY3] 28)) := C_10.alloc C_10.size (.cells #[.int .i64 kY, .string tY, .slice aY1 nY1 cY1, .slice aY2 nY2 cY2, .slice aY3 nY3 cY3] 28)
  clear C_10
  have Y_17 := hide (BoxAt.new w2 (.int .i64 kY) (.string tY) (.slice aY1 nY1 cY1) (.slice aY2 nY2 cY2) (.slice aY3 nY3 cY3) 28)
  refine (HH.out _ _ IX_13.out).mono ?_
  rintro e w3 ⟨rfl, hb3⟩
  clear xc0 xc1 xc2 xc3 xc4 xlt
  have C_18 : Below w.heap.size w w3 := C_16.trans (hb3.mono C_16.size)
  clear C_16
  have IX_19 := hide (IX_13.out.below hb3)
  have X_19 := hide (X_14.out.below hb3)
  have IY_19 := hide (IY_15.out.below hb3)
  have Y_19 := hide (Y_17.out.below hb3)
  clear IX_13 X_14 IY_15 Y_17
  clear hb3
  obtain ⟨xc0, xc1, xc2, xc3, xc4, xlt⟩ := X_19.out
  obtain ⟨yc0, yc1, yc2, yc3, yc4, ylt⟩ := Y_19.out
  go_wp2_with fail
  have IT := hide (items_two IX_19.out IY_19.out 28 w3.heap.size rfl)
  have IX_20 := hide (IX_19.out.below ((Below.refl _ w3).alloc (Nat.le_refl _) (.cells #[.int .i64 kX, .string tX, .slice aX1 nX1 cX1, .slice aX2 nX2 cX2, .slice aX3 nX3 cX3, .int .i64 kY, .string tY, .slice aY1 nY1 cY1, .slice aY2 nY2 cY2, .slice aY3 nY3 cY3] 28)))
  clear IX_19
  have X_21 := hide (X_19.out.below ((Below.refl _ w3).alloc (Nat.le_refl _) (.cells #[.int .i64 kX, .string tX, .slice aX1 nX1 cX1, .slice aX2 nX2 cX2, .slice aX3 nX3 cX3, .int .i64 kY, .string tY, .slice aY1 nY1 cY1, .slice aY2 nY2 cY2, .slice aY3 nY3 cY3] 28)))
  clear X_19
  have IY_22 := hide (IY_19.out.below ((Below.refl _ w3).alloc (Nat.le_refl _) (.cells #[.int .i64 kX, .string tX, .slice aX1 nX1 cX1, .slice aX2 nX2 cX2, .slice aX3 nX3 cX3, .int .i64 kY, .string tY, .slice aY1 nY1 cY1, .slice aY2 nY2 cY2, .slice aY3 nY3 cY3] 28)))
  clear IY_19
  have Y_23 := hide (Y_19.out.below ((Below.refl _ w3).alloc (Nat.le_refl _) (.cells #[.int .i64 kX, .string tX, .slice aX1 nX1 cX1, .slice aX2 nX2 cX2, .slice aX3 nX3 cX3, .int .i64 kY, .string tY, .slice aY1 nY1 cY1, .slice aY2 nY2 cY2, .slice aY3 nY3 cY3] 28)))
  clear Y_19
  have C_24 : Below w.heap.size w (w3.alloc (.cells #[.int .i64 kX, .string tX, .slice aX1 nX1 cX1, .slice aX2 nX2 cX2, .slice aX3 nX3 cX3, .int .i64 kY, .string tY, .slice aY1 nY1 cY1, .slice aY2 nY2 cY2, .slice aY3 nY3 cY3] 28)) := C_18.alloc C_18.size (.cells #[.int .i64 kX, .string tX, .slice aX1 nX1 cX1, .slice aX2 nX2 cX2, .slice aX3 nX3 cX3, .int .i64 kY, .string tY, .slice aY1 nY1 cY1, .slice aY2 nY2 cY2, .slice aY3 nY3 cY3] 28)
  clear C_18
  refine (HM.out _ _ IT.out).mono ?_
  rintro e w4 ⟨⟨aM, cM, rfl, iM⟩, hb4⟩
  clear xc0 xc1 xc2 xc3 xc4 xlt yc0 yc1 yc2 yc3 yc4 ylt
  have C_25 : Below w.heap.size w w4 := C_24.trans (hb4.mono C_24.size)
  clear C_24
  have IX_26 := hide (IX_20.out.below hb4)
  have X_26 := hide (X_21.out.below hb4)
  have IY_26 := hide (IY_22.out.below hb4)
  have Y_26 := hide (Y_23.out.below hb4)
  clear IX_20 X_21 IY_22 Y_23
  clear hb4
  clear IT
  have TM_27 := hide (iM)
  clear iM
  obtain ⟨xc0, xc1, xc2, xc3, xc4, xlt⟩ := X_26.out
  obtain ⟨yc0, yc1, yc2, yc3, yc4, ylt⟩ := Y_26.out
  go_wp2_with fail
  have IT := hide (items_two IX_26.out IY_26.out 28 w4.heap.size rfl)
  have IX_28 := hide (IX_26.out.below ((Below.refl _ w4).alloc (Nat.le_refl _) (.cells #[.int .i64 kX, .string tX, .slice aX1 nX1 cX1, .slice aX2 nX2 cX2, .slice aX3 nX3 cX3, .int .i64 kY, .string tY, .slice aY1 nY1 cY1, .slice aY2 nY2 cY2, .slice aY3 nY3 cY3] 28)))
  clear IX_26
  have X_29 := hide (X_26.out.below ((Below.refl _ w4).alloc (Nat.le_refl _) (.cells #[.int .i64 kX, .string tX, .slice aX1 nX1 cX1, .slice aX2 nX2 cX2, .slice aX3 nX3 cX3, .int .i64 kY, .string tY, .slice aY1 nY1 cY1, .slice aY2 nY2 cY2, .slice aY3 nY3 cY3] 28)))
  clear X_26
  have IY_30 := hide (IY_26.out.below ((Below.refl _ w4).alloc (Nat.le_refl _) (.cells #[.int .i64 kX, .string tX, .slice aX1 nX1 cX1, .slice aX2 nX2 cX2, .slice aX3 nX3 cX3, .int .i64 kY, .string tY, .slice aY1 nY1 cY1, .slice aY2 nY2 cY2, .slice aY3 nY3 cY3] 28)))
  clear IY_26
  have Y_31 := hide (Y_26.out.below ((Below.refl _ w4).alloc (Nat.le_refl _) (.cells #[.int .i64 kX, .string tX, .slice aX1 nX1 cX1, .slice aX2 nX2 cX2, .slice aX3 nX3 cX3, .int .i64 kY, .string tY, .slice aY1 nY1 cY1, .slice aY2 nY2 cY2, .slice aY3 nY3 cY3] 28)))
  clear Y_26
  have TM_32 := hide (TM_27.out.below ((Below.refl _ w4).alloc (Nat.le_refl _) (.cells #[.int .i64 kX, .string tX, .slice aX1 nX1 cX1, .slice aX2 nX2 cX2, .slice aX3 nX3 cX3, .int .i64 kY, .string tY, .slice aY1 nY1 cY1, .slice aY2 nY2 cY2, .slice aY3 nY3 cY3] 28)))
  clear TM_27
  have C_33 : Below w.heap.size w (w4.alloc (.cells #[.int .i64 kX, .string tX, .slice aX1 nX1 cX1, .slice aX2 nX2 cX2, .slice aX3 nX3 cX3, .int .i64 kY, .string tY, .slice aY1 nY1 cY1, .slice aY2 nY2 cY2, .slice aY3 nY3 cY3] 28)) := C_25.alloc C_25.size (.cells #[.int .i64 kX, .string tX, .slice aX1 nX1 cX1, .slice aX2 nX2 cX2, .slice aX3 nX3 cX3, .int .i64 kY, .string tY, .slice aY1 nY1 cY1, .slice aY2 nY2 cY2, .slice aY3 nY3 cY3] 28)
  clear C_25
  refine (HJ.out _ _ IT.out).mono ?_
  rintro e w5 ⟨⟨aJ, cJ, rfl, iJ⟩, hb5⟩
  clear xc0 xc1 xc2 xc3 xc4 xlt yc0 yc1 yc2 yc3 yc4 ylt
  have C_34 : Below w.heap.size w w5 := C_33.trans (hb5.mono C_33.size)
  clear C_33
  have IX_35 := hide (IX_28.out.below hb5)
  have X_35 := hide (X_29.out.below hb5)
  have IY_35 := hide (IY_30.out.below hb5)
  have Y_35 := hide (Y_31.out.below hb5)
  have TM_35 := hide (TM_32.out.below hb5)
  clear IX_28 X_29 IY_30 Y_31 TM_32
  clear hb5
  clear IT
  have TJ_36 := hide (iJ)
  clear iJ
  obtain ⟨xc0, xc1, xc2, xc3, xc4, xlt⟩ := X_35.out
  obtain ⟨yc0, yc1, yc2, yc3, yc4, ylt⟩ := Y_35.out
  go_wp2_with fail
  have IT := hide (items_two IX_35.out IY_35.out 28 w5.heap.size rfl)
  have IX_37 := hide (IX_35.out.below ((Below.refl _ w5).alloc (Nat.le_refl _) (.cells #[.int .i64 kX, .string tX, .slice aX1 nX1 cX1, .slice aX2 nX2 cX2, .slice aX3 nX3 cX3, .int .i64 kY, .string tY, .slice aY1 nY1 cY1, .slice aY2 nY2 cY2, .slice aY3 nY3 cY3] 28)))
  clear IX_35
  have X_38 := hide (X_35.out.below ((Below.refl _ w5).alloc (Nat.le_refl _) (.cells #[.int .i64 kX, .string tX, .slice aX1 nX1 cX1, .slice aX2 nX2 cX2, .slice aX3 nX3 cX3, .int .i64 kY, .string tY, .slice aY1 nY1 cY1, .slice aY2 nY2 cY2, .slice aY3 nY3 cY3] 28)))
  clear X_35
  have IY_39 := hide (IY_35.out.below ((Below.refl _ w5).alloc (Nat.le_refl _) (.cells #[.int .i64 kX, .string tX, .slice aX1 nX1 cX1, .slice aX2 nX2 cX2, .slice aX3 nX3 cX3, .int .i64 kY, .string tY, .slice aY1 nY1 cY1, .slice aY2 nY2 cY2, .slice aY3 nY3 cY3] 28)))
  clear IY_35
  have Y_40 := hide (Y_35.out.below ((Below.refl _ w5).alloc (Nat.le_refl _) (.cells #[.int .i64 kX, .string tX, .slice aX1 nX1 cX1, .slice aX2 nX2 cX2, .slice aX3 nX3 cX3, .int .i64 kY, .string tY, .slice aY1 nY1 cY1, .slice aY2 nY2 cY2, .slice aY3 nY3 cY3] 28)))
  clear Y_35
  have TM_41 := hide (TM_35.out.below ((Below.refl _ w5).alloc (Nat.le_refl _) (.cells #[.int .i64 kX, .string tX, .slice aX1 nX1 cX1, .slice aX2 nX2 cX2, .slice aX3 nX3 cX3, .int .i64 kY, .string tY, .slice aY1 nY1 cY1, .slice aY2 nY2 cY2, .slice aY3 nY3 cY3] 28)))
  clear TM_35
  have TJ_42 := hide (TJ_36.out.below ((Below.refl _ w5).alloc (Nat.le_refl _) (.cells #[.int .i64 kX, .string tX, .slice aX1 nX1 cX1, .slice aX2 nX2 cX2, .slice aX3 nX3 cX3, .int .i64 kY, .string tY, .slice aY1 nY1 cY1, .slice aY2 nY2 cY2, .slice aY3 nY3 cY3] 28)))
  clear TJ_36
  have C_43 : Below w.heap.size w (w5.alloc (.cells #[.int .i64 kX, .string tX, .slice aX1 nX1 cX1, .slice aX2 nX2 cX2, .slice aX3 nX3 cX3, .int .i64 kY, .string tY, .slice aY1 nY1 cY1, .slice aY2 nY2 cY2, .slice aY3 nY3 cY3] 28)) := C_34.alloc C_34.size (.cells #[.int .i64 kX, .string tX, .slice aX1 nX1 cX1, .slice aX2 nX2 cX2, .slice aX3 nX3 cX3, .int .i64 kY, .string tY, .slice aY1 nY1 cY1, .slice aY2 nY2 cY2, .slice aY3 nY3 cY3] 28)
  clear C_34
  refine (HL.out _ _ IT.out).mono ?_
  rintro e w6 ⟨⟨aL, cL, rfl, iL⟩, hb6⟩
  clear xc0 xc1 xc2 xc3 xc4 xlt yc0 yc1 yc2 yc3 yc4 ylt
  have C_44 : Below w.heap.size w w6 := C_43.trans (hb6.mono C_43.size)
  clear C_43
  have IX_45 := hide (IX_37.out.below hb6)
  have X_45 := hide (X_38.out.below hb6)
  have IY_45 := hide (IY_39.out.below hb6)
  have Y_45 := hide (Y_40.out.below hb6)
  have TM_45 := hide (TM_41.out.below hb6)
  have TJ_45 := hide (TJ_42.out.below hb6)
  clear IX_37 X_38 IY_39 Y_40 TM_41 TJ_42
  clear hb6
  clear IT
  have TL_46 := hide (iL)
  clear iL
  go_wp2_with fail
  have IX_47 := hide (IX_45.out.below ((Below.refl _ w6).alloc (Nat.le_refl _) (.cells #[.string ⟨#[98]⟩] 9)))
  clear IX_45
  have X_48 := hide (X_45.out.below ((Below.refl _ w6).alloc (Nat.le_refl _) (.cells #[.string ⟨#[98]⟩] 9)))
  clear X_45
  have IY_49 := hide (IY_45.out.below ((Below.refl _ w6).alloc (Nat.le_refl _) (.cells #[.string ⟨#[98]⟩] 9)))
  clear IY_45
  have Y_50 := hide (Y_45.out.below ((Below.refl _ w6).alloc (Nat.le_refl _) (.cells #[.string ⟨#[98]⟩] 9)))
  clear Y_45
  have TM_51 := hide (TM_45.out.below ((Below.refl _ w6).alloc (Nat.le_refl _) (.cells #[.string ⟨#[98]⟩] 9)))
  clear TM_45
  have TJ_52 := hide (TJ_45.out.below ((Below.refl _ w6).alloc (Nat.le_refl _) (.cells #[.string ⟨#[98]⟩] 9)))
  clear TJ_45
  have TL_53 := hide (TL_46.out.below ((Below.refl _ w6).alloc (Nat.le_refl _) (.cells #[.string ⟨#[98]⟩] 9)))
  clear TL_46
  have C_54 : Below w.heap.size w (w6.alloc (.cells #[.string ⟨#[98]⟩] 9)) := C_44.alloc C_44.size (.cells #[.string ⟨#[98]⟩] 9)
  clear C_44
  refine (HSM.out _ _ _ _ TM_51.out (by exact ones_texts _ _  _ _ (by simp))).mono ?_
  rintro e w7 ⟨rfl, hb7⟩
  have C_55 : Below w.heap.size w w7 := C_54.trans (hb7.mono C_54.size)
  clear C_54
  have IX_56 := hide (IX_47.out.below hb7)
  have X_56 := hide (X_48.out.below hb7)
  have IY_56 := hide (IY_49.out.below hb7)
  have Y_56 := hide (Y_50.out.below hb7)
  have TM_56 := hide (TM_51.out.below hb7)
  have TJ_56 := hide (TJ_52.out.below hb7)
  have TL_56 := hide (TL_53.out.below hb7)
  clear IX_47 X_48 IY_49 Y_50 TM_51 TJ_52 TL_53
  clear hb7
  go_wp2_with fail
  have IX_57 := hide (IX_56.out.below ((Below.refl _ w7).alloc (Nat.le_refl _) (.cells #[.string ⟨#[97]⟩, .string ⟨#[98]⟩] 9)))
  clear IX_56
  have X_58 := hide (X_56.out.below ((Below.refl _ w7).alloc (Nat.le_refl _) (.cells #[.string ⟨#[97]⟩, .string ⟨#[98]⟩] 9)))
  clear X_56
  have IY_59 := hide (IY_56.out.below ((Below.refl _ w7).alloc (Nat.le_refl _) (.cells #[.string ⟨#[97]⟩, .string ⟨#[98]⟩] 9)))
  clear IY_56
  have Y_60 := hide (Y_56.out.below ((Below.refl _ w7).alloc (Nat.le_refl _) (.cells #[.string ⟨#[97]⟩, .string ⟨#[98]⟩] 9)))
  clear Y_56
  have TM_61 := hide (TM_56.out.below ((Below.refl _ w7).alloc (Nat.le_refl _) (.cells #[.string ⟨#[97]⟩, .string ⟨#[98]⟩] 9)))
  clear TM_56
  have TJ_62 := hide (TJ_56.out.below ((Below.refl _ w7).alloc (Nat.le_refl _) (.cells #[.string ⟨#[97]⟩, .string ⟨#[98]⟩] 9)))
  clear TJ_56
  have TL_63 := hide (TL_56.out.below ((Below.refl _ w7).alloc (Nat.le_refl _) (.cells #[.string ⟨#[97]⟩, .string ⟨#[98]⟩] 9)))
  clear TL_56
  have C_64 : Below w.heap.size w (w7.alloc (.cells #[.string ⟨#[97]⟩, .string ⟨#[98]⟩] 9)) := C_55.alloc C_55.size (.cells #[.string ⟨#[97]⟩, .string ⟨#[98]⟩] 9)
  clear C_55
  refine (HSJ.out _ _ _ _ TJ_62.out (by exact two_textsS _ _ _  _ _ (by simp))).mono ?_
  rintro e w8 ⟨rfl, hb8⟩
  have C_65 : Below w.heap.size w w8 := C_64.trans (hb8.mono C_64.size)
  clear C_64
  have IX_66 := hide (IX_57.out.below hb8)
  have X_66 := hide (X_58.out.below hb8)
  have IY_66 := hide (IY_59.out.below hb8)
  have Y_66 := hide (Y_60.out.below hb8)
  have TM_66 := hide (TM_61.out.below hb8)
  have TJ_66 := hide (TJ_62.out.below hb8)
  have TL_66 := hide (TL_63.out.below hb8)
  clear IX_57 X_58 IY_59 Y_60 TM_61 TJ_62 TL_63
  clear hb8
  go_wp2_with fail
  have IX_67 := hide (IX_66.out.below ((Below.refl _ w8).alloc (Nat.le_refl _) (.cells #[.string ⟨#[97]⟩] 9)))
  clear IX_66
  have X_68 := hide (X_66.out.below ((Below.refl _ w8).alloc (Nat.le_refl _) (.cells #[.string ⟨#[97]⟩] 9)))
  clear X_66
  have IY_69 := hide (IY_66.out.below ((Below.refl _ w8).alloc (Nat.le_refl _) (.cells #[.string ⟨#[97]⟩] 9)))
  clear IY_66
  have Y_70 := hide (Y_66.out.below ((Below.refl _ w8).alloc (Nat.le_refl _) (.cells #[.string ⟨#[97]⟩] 9)))
  clear Y_66
  have TM_71 := hide (TM_66.out.below ((Below.refl _ w8).alloc (Nat.le_refl _) (.cells #[.string ⟨#[97]⟩] 9)))
  clear TM_66
  have TJ_72 := hide (TJ_66.out.below ((Below.refl _ w8).alloc (Nat.le_refl _) (.cells #[.string ⟨#[97]⟩] 9)))
  clear TJ_66
  have TL_73 := hide (TL_66.out.below ((Below.refl _ w8).alloc (Nat.le_refl _) (.cells #[.string ⟨#[97]⟩] 9)))
  clear TL_66
  have C_74 : Below w.heap.size w (w8.alloc (.cells #[.string ⟨#[97]⟩] 9)) := C_65.alloc C_65.size (.cells #[.string ⟨#[97]⟩] 9)
  clear C_65
  refine (HSL.out _ _ _ _ TL_73.out (by exact ones_texts _ _  _ _ (by simp))).mono ?_
  rintro e w9 ⟨rfl, hb9⟩
  have C_75 : Below w.heap.size w w9 := C_74.trans (hb9.mono C_74.size)
  clear C_74
  have IX_76 := hide (IX_67.out.below hb9)
  have X_76 := hide (X_68.out.below hb9)
  have IY_76 := hide (IY_69.out.below hb9)
  have Y_76 := hide (Y_70.out.below hb9)
  have TM_76 := hide (TM_71.out.below hb9)
  have TJ_76 := hide (TJ_72.out.below hb9)
  have TL_76 := hide (TL_73.out.below hb9)
  clear IX_67 X_68 IY_69 Y_70 TM_71 TJ_72 TL_73
  clear hb9
  go_wp2_with fail
  go_ret
  exact ⟨rfl, C_75⟩
end Go.Proofs.YtcidoodaiimhfaaGreat

/- WALK of the reference: what comes must be. -/
namespace Go.Proofs.YtcidoodaiimhfaaGreat
open Go.RowKit

/-- what is wrong with some that come -/
def someE (l : List ByteArray) : Int := if l = [] then 1 else if l.any longT = true then 2 else 0
set_option maxRecDepth 100000 in
set_option maxHeartbeats 1000000 in
theorem checkSome_any (a : Option Addr) (cap : Nat) (ts : List ByteArray) (w : World) (hs : TextsAt w a ts) (hn : ts.length ≤ 281474976710656) :
    Calls Tryz.prog 83 #[.slice a ts.length cap] w fun e w' => e = .returned (.int .i64 (someE ts)) ∧ w' = w := by
  by_cases h0 : ts = []
  · subst h0
    go_enter Tryz.func83, Tryz.ntmps83
    go_wp2_with fail
    go_ret
    exact ⟨rfl, rfl⟩
  · have HS := hide hs
    have hpos : 0 < ts.length := List.length_pos_iff.2 h0
    have h0' : (((ts.length : Nat) : Int) == 0) = false := by rw [beq_eq_false_iff_ne]; omega
    have HE2 : Hid (ts.any longT = true → someE ts = 2) := fun h => by rw [someE, if_neg h0, if_pos h]
    have HE0 : Hid (ts.any longT = false → someE ts = 0) := fun h => by rw [someE, if_neg h0, if_neg (by rw [h]; decide)]
    clear hs h0
    go_enter Tryz.func83, Tryz.ntmps83
    go_wp2_with fail
    go_loop [3] (fun i => ∃ k : Nat, k ≤ ts.length ∧ i = .int .i64 k ∧ Hid ((ts.take k).any longT = false)) (fun i => ts.length - (intOf i).toNat)
    case atStart => exact ⟨0, Nat.zero_le _, rfl, by simp [Hid]⟩
    case round =>
      obtain ⟨k, hk, rfl, HA⟩ := hrel
      by_cases hlt : k < ts.length
      · have hlt' : ((k : Nat) : Int) < ((ts.length : Nat) : Int) := by omega
        obtain ⟨g, o, rfl, hcs⟩ : ∃ g o, a = some ⟨g, o, none⟩ ∧ ∀ i (h : i < ts.length), w.cell? ⟨g, o + i, none⟩ = some (.string ts[i]) := by
          rcases HS.out with h | h
          · subst h; simp at hlt
          · exact h
        have d0 : w.cell? ⟨g, o + k, none⟩ = some (.string ts[k]) := hcs k hlt
        have HT : Hid (longT ts[k] = false → (ts.take (k + 1)).any longT = false) := fun hx => by
          rw [List.take_succ_eq_append_getElem hlt, List.any_append, HA.out]
          simp [hx]
        have HF : Hid (longT ts[k] = true → ts.any longT = true) := fun hx => List.any_eq_true.mpr ⟨ts[k], List.getElem_mem hlt, hx⟩
        clear hcs HS
        generalize ts[k] = X at *
        by_cases hX : 60 < X.size
        · have HF' := hide (HE2.out (HF.out (by unfold longT; exact decide_eq_true hX)))
          have hX' : (60 : Int) < ((X.size : Nat) : Int) := by omega
          clear HT HF HE2 HE0
          go_wp2_with fail
          go_ret
          rw [HF'.out]
          exact ⟨rfl, rfl⟩
        · have HT' := hide (HT.out (by unfold longT; exact decide_eq_false hX))
          have hX' : ¬ (60 : Int) < ((X.size : Nat) : Int) := by omega
          clear HT HF
          go_wp2_with fail
          go_round
          case rel => exact ⟨k + 1, by omega, by go_num, HT'⟩
          case measure => simp [intOf]; omega
      · have hge : ¬ ((k : Nat) : Int) < ((ts.length : Nat) : Int) := by omega
        obtain rfl : k = ts.length := by omega
        have HY : Hid (someE ts = 0) := by have := HA.out; rw [List.take_length] at this; exact HE0.out this
        clear HE2 HE0
        go_wp2_with fail
        go_ret
        rw [HY.out]
        exact ⟨rfl, rfl⟩
end Go.Proofs.YtcidoodaiimhfaaGreat

/- WALK of the reference's IsNothing. -/
namespace Go.Proofs.YtcidoodaiimhfaaGreat
open Go.RowKit

theorem refNothing_any (k : Int) (t : ByteArray) (a1 a2 a3 : Option Addr) (n1 n2 n3 c1 c2 c3 : Nat) (w : World) (h1 : n1 ≤ 281474976710656) (h2 : n2 ≤ 281474976710656) (h3 : n3 ≤ 281474976710656) :
    Calls Tryz.prog 12 #[.agg #[.int .i64 k, .string t, .slice a1 n1 c1, .slice a2 n2 c2, .slice a3 n3 c3]] w fun e w' => e = .returned (.bool (decide (k = 0 ∧ t.toList = [] ∧ n1 = 0 ∧ n2 = 0 ∧ n3 = 0))) ∧ Below w.heap.size w w' := by
  go_enter Tryz.func12, Tryz.ntmps12
  go_wp2
  all_goals go_ret
  all_goals refine ⟨?_, (Below.refl _ _).alloc (Nat.le_refl _) _⟩
  all_goals first | (simp [*]; done) | (simp [*]; rw [Bool.eq_iff_iff]; simp; omega)

end Go.Proofs.YtcidoodaiimhfaaGreat

/- WALK of the reference's CheckAs. -/
namespace Go.Proofs.YtcidoodaiimhfaaGreat
open Go.RowKit

theorem isNone_len' (x : Itm) : decide (x.k = 0 ∧ x.t.toList = [] ∧ x.l.length = 0 ∧ x.p.length = 0 ∧ x.s.length = 0) = x.isNone := by
  unfold Itm.isNone
  simp
set_option maxRecDepth 100000 in
set_option maxHeartbeats 4000000 in
theorem refAs_any (v : Value) (x : Itm) (kind : Int) (w : World) (h : ItemIs w v x) :
    Calls Tryz.prog 82 #[v, .int .i64 kind] w fun e w' => e = .returned (.int .i64 (asI x kind)) ∧ Below w.heap.size w w' := by
  have HI := hide h
  obtain ⟨⟨a1, c1, a2, c2, a3, c3, rfl, -, -, -⟩, -, -, -, -, ll, pl, sl⟩ := h
  have HN : Hid (∀ W, Calls Tryz.prog 12 #[.agg #[.int .i64 x.k, .string x.t, .slice a1 x.l.length c1, .slice a2 x.p.length c2, .slice a3 x.s.length c3]] W fun e w' => e = .returned (.bool x.isNone) ∧ Below W.heap.size W w') := fun W => by rw [← isNone_len']; exact refNothing_any x.k x.t a1 a2 a3 x.l.length x.p.length x.s.length c1 c2 c3 W ll pl sl
  have HC : Hid (∀ W, Below w.heap.size w W → Calls Tryz.prog 13 #[.agg #[.int .i64 x.k, .string x.t, .slice a1 x.l.length c1, .slice a2 x.p.length c2, .slice a3 x.s.length c3]] W fun e w' => e = .returned (.int .i64 (chkI x)) ∧ Below W.heap.size W w') := fun W hW => refCheck_any _ x W (HI.out.below hW)
  clear HI ll pl sl
  cases hn : x.isNone with
  | true =>
    have hv : asI x kind = 0 := by rw [asI, if_pos hn]
    rw [hv]
    rw [hn] at HN
    clear hv hn
    go_enter Tryz.func82, Tryz.ntmps82
    go_wp2_with fail
    refine (HN.out _).mono ?_
    rintro e w1 ⟨rfl, hb1⟩
    go_wp2_with fail
    go_ret
    exact ⟨rfl, ((Below.refl _ w).alloc (Nat.le_refl _) _).trans (hb1.mono (by simp))⟩
  | false =>
    have hv : asI x kind = if chkI x ≠ 0 then chkI x else if x.k ≠ kind then 7 else 0 := by rw [asI, if_neg (by rw [hn]; decide)]
    rw [hv]
    rw [hn] at HN
    clear hv hn
    generalize chkI x = C at *
    generalize x.l.length = n1 at *
    generalize x.p.length = n2 at *
    generalize x.s.length = n3 at *
    generalize x.k = k at *
    generalize x.t = t at *
    by_cases h0 : C = 0
    · subst h0
      rw [if_neg (by simp)]
      by_cases hk : k = kind
      · subst hk
        rw [if_neg (by simp)]
        go_enter Tryz.func82, Tryz.ntmps82
        go_wp2_with fail
        refine (HN.out _).mono ?_
        rintro e w1 ⟨rfl, hb1⟩
        obtain ⟨hc, hf⟩ := bcell hb1
        have hz : w.heap.size < w1.heap.size := by have := hb1.size; simp at this; omega
        have hB1 : Below w.heap.size w w1 := ((Below.refl _ w).alloc (Nat.le_refl _) _).trans (hb1.mono (by simp))
        go_wp2_with fail
        refine (HC.out w1 hB1).mono ?_
        rintro e w2 ⟨rfl, hb2⟩
        obtain ⟨hc2, hf2⟩ := bcell hb2
        have hz2 : w.heap.size < w2.heap.size := by have := hb2.size; omega
        have hB2 : Below w.heap.size w w2 := hB1.trans (hb2.mono hB1.size)
        go_wp2_with fail
        go_ret
        exact ⟨rfl, hB2⟩
      · rw [if_pos hk]
        have hk' : (k == kind) = false := by rw [beq_eq_false_iff_ne]; exact hk
        go_enter Tryz.func82, Tryz.ntmps82
        go_wp2_with fail
        refine (HN.out _).mono ?_
        rintro e w1 ⟨rfl, hb1⟩
        obtain ⟨hc, hf⟩ := bcell hb1
        have hz : w.heap.size < w1.heap.size := by have := hb1.size; simp at this; omega
        have hB1 : Below w.heap.size w w1 := ((Below.refl _ w).alloc (Nat.le_refl _) _).trans (hb1.mono (by simp))
        go_wp2_with fail
        refine (HC.out w1 hB1).mono ?_
        rintro e w2 ⟨rfl, hb2⟩
        obtain ⟨hc2, hf2⟩ := bcell hb2
        have hz2 : w.heap.size < w2.heap.size := by have := hb2.size; omega
        have hB2 : Below w.heap.size w w2 := hB1.trans (hb2.mono hB1.size)
        go_wp2_with fail
        go_ret
        exact ⟨rfl, hB2⟩
    · rw [if_pos h0]
      have h0' : (C == 0) = false := by rw [beq_eq_false_iff_ne]; exact h0
      go_enter Tryz.func82, Tryz.ntmps82
      go_wp2_with fail
      refine (HN.out _).mono ?_
      rintro e w1 ⟨rfl, hb1⟩
      obtain ⟨hc, hf⟩ := bcell hb1
      have hz : w.heap.size < w1.heap.size := by have := hb1.size; simp at this; omega
      have hB1 : Below w.heap.size w w1 := ((Below.refl _ w).alloc (Nat.le_refl _) _).trans (hb1.mono (by simp))
      go_wp2_with fail
      refine (HC.out w1 hB1).mono ?_
      rintro e w2 ⟨rfl, hb2⟩
      have hB2 : Below w.heap.size w w2 := hB1.trans (hb2.mono hB1.size)
      go_wp2_with fail
      go_ret
      exact ⟨rfl, hB2⟩

end Go.Proofs.YtcidoodaiimhfaaGreat

/- WALK of the reference's lists: PushOf. -/
namespace Go.Proofs.YtcidoodaiimhfaaGreat
open Go.RowKit

theorem pushE_ref (x : Itm) (l : List ByteArray) (h0 : asI x 2 = 0) : pushE x l = if someE l ≠ 0 then someE l else if 24 < x.l.length + l.length then 2 else 0 := by
  obtain ⟨-, h24, -⟩ := asI_list h0
  unfold pushE someE
  rw [if_neg (by simp [h0])]
  by_cases hl : l = []
  · subst hl; simp; omega
  · by_cases hb : l.any longT = true
    · simp [hl, hb]
    · simp [hl, hb]
theorem pushL_none (L : List ByteArray) (left : Bool) : pushL L left [] = L := by
  unfold pushL
  split <;> simp
theorem pushL_len (L l : List ByteArray) (left : Bool) : (pushL L left l).length = L.length + l.length := by
  unfold pushL
  split <;> simp <;> omega
theorem pushL_step (L l : List ByteArray) (left : Bool) {k : Nat} (h : k < l.length) : pushL L left (l.take (k + 1)) = if left then l[k] :: pushL L left (l.take k) else pushL L left (l.take k) ++ [l[k]] := by
  have et : l.take (k + 1) = l.take k ++ [l[k]] := by rw [List.take_append_getElem]
  rw [et]
  unfold pushL
  cases left with
  | true => rw [if_pos rfl, if_pos rfl, if_pos rfl, List.reverse_append]; rfl
  | false => rw [if_neg (by decide), if_neg (by decide), if_neg (by decide), List.append_assoc]
theorem pushL_mem {L l : List ByteArray} {left : Bool} {t : ByteArray} (h : t ∈ pushL L left l) : t ∈ L ∨ t ∈ l := by
  unfold pushL at h
  split at h
  · rcases List.mem_append.1 h with h | h
    · exact .inr (List.mem_reverse.1 h)
    · exact .inl h
  · rcases List.mem_append.1 h with h | h
    · exact .inl h
    · exact .inr h
set_option maxRecDepth 100000 in
set_option maxHeartbeats 8000000 in
theorem pushOf_any (v : Value) (x : Itm) (left : Bool) (al : Option Addr) (cl : Nat) (l : List ByteArray) (w : World) (h : ItemIs w v x) (hl : TextsAt w al l) (hlz : ∀ t ∈ l, t.size ≤ maxLen) (hll : l.length ≤ 281474976710656) :
    Calls Tryz.prog 32 #[v, .bool left, .slice al l.length cl] w fun e w' => ∃ u, e = .returned (.tuple #[u, .int .i64 (pushN x l), .int .i64 (pushE x l)]) ∧ ItemFrom w.heap.size w' u (pushI x left l) ∧ Below w.heap.size w w' := by
  have HC : Hid (∀ W, Below w.heap.size w W → Calls Tryz.prog 82 #[v, .int .i64 2] W fun e w' => e = .returned (.int .i64 (asI x 2)) ∧ Below W.heap.size W w') := fun W hW => refAs_any v x 2 W (h.below hW)
  have HSM : Hid (∀ W, Below w.heap.size w W → Calls Tryz.prog 83 #[.slice al l.length cl] W fun e w' => e = .returned (.int .i64 (someE l)) ∧ w' = W) := fun W hW => checkSome_any al cl l W (hl.below hW) hll
  obtain ⟨⟨a1, c1, a2, c2, a3, c3, rfl, hx1, -, -⟩, tz, lz, -, -, -, -, -⟩ := h
  have HX := hide hx1
  have HL := hide hl
  clear hx1 hl
  by_cases h0 : asI x 2 = 0
  · obtain ⟨hxe, hx24, hxl⟩ := asI_list h0
    have hE := pushE_ref x l h0
    rw [h0] at HC
    by_cases hs0 : someE l = 0
    · rw [if_neg (by simp [hs0])] at hE
      by_cases hbig : 24 < x.l.length + l.length
      · rw [if_pos hbig] at hE
        rw [pushN, pushI, hE, if_neg (by decide), if_neg (by decide)]
        have hbig' : (24 : Int) < ((x.l.length : Nat) : Int) + ((l.length : Nat) : Int) := by omega
        rw [hs0] at HSM
        clear hE h0 hxl hxe hs0 lz hlz HX HL
        generalize x.l = L at *
        generalize x.t = t at *
        generalize x.k = k at *
        generalize x.p.length = n2 at *
        generalize x.s.length = n3 at *
        go_enter Tryz.func32, Tryz.ntmps32
        go_wp2_with fail
        refine (HC.out _ (((Below.refl _ w).alloc (Nat.le_refl _) _).alloc (by simp) _)).mono ?_
        rintro e w1 ⟨rfl, hb1⟩
        obtain ⟨hc, hf⟩ := bcell hb1
        have hz : w.heap.size + 1 < w1.heap.size := by have := hb1.size; simp at this; omega
        have hy : w.heap.size < w1.heap.size := by omega
        have hB1 : Below w.heap.size w w1 := (((Below.refl _ w).alloc (Nat.le_refl _) _).alloc (by simp) _).trans (hb1.mono (by simp; omega))
        go_wp2_with fail
        refine (HSM.out w1 hB1).mono ?_
        rintro e w1 ⟨rfl, rfl⟩
        go_wp2_with fail
        refine bodyPost_ret (v := .tuple #[.agg #[.int .i64 0, .string ⟨#[]⟩, .slice none 0 0, .slice none 0 0, .slice none 0 0], .int .i64 0, .int .i64 2]) (by simp [results, Tryz.results32, go_sem, hc]) rfl ⟨_, rfl, fun w'' _ => zero_is w'', ?_⟩
        go_grown
      · rw [if_neg hbig] at hE
        rw [pushN, pushI, hE, if_pos rfl, if_pos rfl]
        have hbig' : ¬ (24 : Int) < ((x.l.length : Nat) : Int) + ((l.length : Nat) : Int) := by omega
        rw [hs0] at HSM
        have HPZ : Hid (∀ t ∈ pushL x.l left l, t.size ≤ maxLen) := fun t ht => (pushL_mem ht).elim (lz t) (hlz t)
        obtain ⟨i0, hi, hz0, hz1, hz2⟩ := info_parts infoStr
        clear hE h0 hxl hxe hs0 lz hlz
        generalize x.l = L at *
        cases left with
        | true =>
          generalize x.t = t at *
          generalize x.k = k at *
          generalize x.p.length = n2 at *
          generalize x.s.length = n3 at *
          go_enter Tryz.func32, Tryz.ntmps32
          go_wp2_with fail
          refine (HC.out _ (((Below.refl _ w).alloc (Nat.le_refl _) _).alloc (by simp) _)).mono ?_
          rintro e w1 ⟨rfl, hb1⟩
          obtain ⟨hc, hf⟩ := bcell hb1
          have hz : w.heap.size + 1 < w1.heap.size := by have := hb1.size; simp at this; omega
          have hy : w.heap.size < w1.heap.size := by omega
          have hB1 : Below w.heap.size w w1 := (((Below.refl _ w).alloc (Nat.le_refl _) _).alloc (by simp) _).trans (hb1.mono (by simp; omega))
          go_wp2_with fail
          refine (HSM.out w1 hB1).mono ?_
          rintro e w1 ⟨rfl, rfl⟩
          have HBX : Hid (∀ W, Below w1.heap.size w1 W → (W.cell? ⟨w.heap.size + 1, 0, none⟩ = some (.int .i64 0) ∧ W.cell? ⟨w.heap.size + 1, 1, none⟩ = some (.string ⟨#[]⟩) ∧ W.cell? ⟨w.heap.size + 1, 2, none⟩ = some (.slice none 0 0) ∧ W.cell? ⟨w.heap.size + 1, 3, none⟩ = some (.slice none 0 0) ∧ W.cell? ⟨w.heap.size + 1, 4, none⟩ = some (.slice none 0 0)) ∧ (∀ j, W.frozen? ⟨w.heap.size + 1, j, none⟩ = false) ∧ W.cell? ⟨w.heap.size, 2, none⟩ = some (.slice a1 L.length c1)) := fun W hW =>
            ⟨⟨(hW.cell (p := ⟨w.heap.size + 1, 0, none⟩) hz).trans ((hc _ _ (by simp)).trans (by simp [go_sem])), (hW.cell (p := ⟨w.heap.size + 1, 1, none⟩) hz).trans ((hc _ _ (by simp)).trans (by simp [go_sem])), (hW.cell (p := ⟨w.heap.size + 1, 2, none⟩) hz).trans ((hc _ _ (by simp)).trans (by simp [go_sem])), (hW.cell (p := ⟨w.heap.size + 1, 3, none⟩) hz).trans ((hc _ _ (by simp)).trans (by simp [go_sem])), (hW.cell (p := ⟨w.heap.size + 1, 4, none⟩) hz).trans ((hc _ _ (by simp)).trans (by simp [go_sem]))⟩, fun j => (hW.frozen (p := ⟨w.heap.size + 1, j, none⟩) hz).trans ((hf _ _ (by simp)).trans (by simp [go_sem])), (hW.cell (p := ⟨w.heap.size, 2, none⟩) hy).trans ((hc _ _ (by simp; omega)).trans (by simp [go_sem]))⟩
          obtain ⟨-, -, x2⟩ := HBX.out w1 (Below.refl _ _)
          clear hc hf hb1 HC HSM
          go_wp2_with (at_builtin; refine wpList_append_texts rfl _ _ rfl w1.heap.size (.slice (some ⟨w1.heap.size, 0, none⟩) 0 0) 0 [] rfl (World.ownsRow_lit w1 #[] 0 (Nat.le_refl _) (by unfold maxLen; omega) rfl) a1 c1 L rfl (HX.out.below (hB1.alloc hB1.size _)) (by omega) (by simp) ?_)
          intro v2 w2 hown2 hg2
          have hb2 : Below w1.heap.size w1 w2 := ((Below.refl _ w1).alloc (Nat.le_refl _) _).grown hg2 (by simp) (fun j hj => by simp [Value.ownBlock] at hj; omega)
          clear HX x2
          go_wp2_with fail
          go_loopw [10, 11] (fun v i wr => ∃ k : Nat, k ≤ l.length ∧ i = .int .i64 k ∧ wr.ownsRow w1.heap.size 9 1 v (pushL L true (l.take k)).length (strs (pushL L true (l.take k))) ∧ Below w1.heap.size w1 wr) (fun _ i _ => l.length - (intOf i).toNat)
          case atStart => exact ⟨0, Nat.zero_le _, rfl, by rw [List.take_zero, pushL_none]; exact hown2, hb2⟩
          case round =>
            obtain ⟨k', hk', rfl, hown, hbr⟩ := hrel
            have hzr := hbr.size
            have hKl : (pushL L true (l.take k')).length ≤ 24 := by rw [pushL_len, List.length_take]; omega
            have BR : Below w.heap.size w wr := hB1.trans (hbr.mono hB1.size)
            obtain ⟨ao, cp, rfl⟩ := slice_own hown
            by_cases hlt : k' < l.length
            · have hlt' : ((k' : Nat) : Int) < ((l.length : Nat) : Int) := by omega
              obtain ⟨g, o, rfl, hcs⟩ : ∃ g o, al = some ⟨g, o, none⟩ ∧ ∀ i (h : i < l.length), w.cell? ⟨g, o + i, none⟩ = some (.string l[i]) := by
                rcases HL.out with h | h
                · subst h; simp at hlt
                · exact h
              have d0 : wr.cell? ⟨g, o + k', none⟩ = some (.string l[k']) := (BR.cell (p := ⟨g, o + k', none⟩) (World.block_lt_of_cell? _ _ (hcs k' hlt))).trans (hcs k' hlt)
              have HY := hide (pushL_step L l true hlt)
              clear hcs HL HBX HPZ
              generalize l[k'] = X at *
              generalize (pushL L true (l.take k')) = K at *
              go_wp2_with (at_builtin; refine wpList_append_texts rfl _ _ rfl w1.heap.size (.slice (some ⟨wr.heap.size, 0, none⟩) 1 1) 1 [.string X] rfl (World.ownsRow_lit wr #[.string X] 1 hzr (by unfold maxLen; omega) rfl) ao cp _ rfl (texts_own (hown.alloc _)) (by omega) (by simp; omega) ?_)
              intro v' w4 hown4 hgrow
              have hb4 : Below w1.heap.size w1 w4 := (hbr.alloc hzr _).grown hgrow (by simp; omega) (fun j hj => by simp [Value.ownBlock] at hj; omega)
              have hown5 : w4.ownsRow w1.heap.size 9 1 v' (pushL L true (l.take (k' + 1))).length (strs (pushL L true (l.take (k' + 1)))) := by
                rw [HY.out]
                simpa [strs, Nat.add_comm] using hown4
              go_wp2_with fail
              go_roundw
              case rel => exact ⟨k' + 1, by omega, by go_num, hown5, hb4⟩
              case measure => simp [intOf]; omega
            · have hge : ¬ ((k' : Nat) : Int) < ((l.length : Nat) : Int) := by omega
              obtain rfl : k' = l.length := by omega
              rw [List.take_length] at hown hKl
              have HKI : Hid ((((pushL L true l).length : Nat) : Int) = ((L.length : Nat) : Int) + ((l.length : Nat) : Int)) := by rw [Hid, pushL_len, Int.natCast_add]
              obtain ⟨fk, fa, fn, fc, hF, hI⟩ := filled_item (p := fun w' => ∀ g o u, w1.heap.size ≤ g → wr.cell? ⟨g, o, none⟩ = some u → w'.cell? ⟨g, o, none⟩ = some u) (cp := cp) 2 (fun w' hw => texts_from hown hw) HPZ.out (by omega)
              simp only [kindI_two] at hI
              have HF := hide hF
              have HI := hide hI
              rw [List.take_length]
              clear hF hI hown HPZ HL
              go_wp2_with fail
              refine (HF.out _).mono ?_
              rintro e w3 ⟨rfl, hb3⟩
              have hb3' : Below w1.heap.size w1 w3 := hbr.trans (hb3.mono hzr)
              obtain ⟨⟨b0, b1, b2, b3, b4⟩, fz, x3⟩ := HBX.out w3 hb3'
              have fz0 := fz 0
              have fz1 := fz 1
              have fz2 := fz 2
              have fz3 := fz 3
              have fz4 := fz 4
              clear HBX fz
              go_wp2_with fail
              refine bodyPost_ret (v := .tuple #[.agg #[.int .i64 fk, .string ⟨#[]⟩, .slice fa fn fc, .slice none 0 0, .slice none 0 0], .int .i64 (((pushL L true l).length : Nat) : Int), .int .i64 0]) (by simp [results, Tryz.results32, go_sem, b0, b1, b2, b3, b4]) rfl ⟨_, by rw [HKI.out], ?_, ?_⟩
              · exact fun w'' hw => HI.out w'' (fun g' o' u' hg hu => hw g' o' u' (by omega) ((five_apart w3 (w.heap.size + 1) _ _ _ _ _ g' o' (by omega)).trans ((hb3.cell (p := ⟨g', o', none⟩) (World.block_lt_of_cell? wr _ hu)).trans hu)))
              · have hb3'' := hB1.trans (hb3'.mono hB1.size)
                go_grown
        | false =>
          generalize x.t = t at *
          generalize x.k = k at *
          generalize x.p.length = n2 at *
          generalize x.s.length = n3 at *
          go_enter Tryz.func32, Tryz.ntmps32
          go_wp2_with fail
          refine (HC.out _ (((Below.refl _ w).alloc (Nat.le_refl _) _).alloc (by simp) _)).mono ?_
          rintro e w1 ⟨rfl, hb1⟩
          obtain ⟨hc, hf⟩ := bcell hb1
          have hz : w.heap.size + 1 < w1.heap.size := by have := hb1.size; simp at this; omega
          have hy : w.heap.size < w1.heap.size := by omega
          have hB1 : Below w.heap.size w w1 := (((Below.refl _ w).alloc (Nat.le_refl _) _).alloc (by simp) _).trans (hb1.mono (by simp; omega))
          go_wp2_with fail
          refine (HSM.out w1 hB1).mono ?_
          rintro e w1 ⟨rfl, rfl⟩
          have HBX : Hid (∀ W, Below w1.heap.size w1 W → (W.cell? ⟨w.heap.size + 1, 0, none⟩ = some (.int .i64 0) ∧ W.cell? ⟨w.heap.size + 1, 1, none⟩ = some (.string ⟨#[]⟩) ∧ W.cell? ⟨w.heap.size + 1, 2, none⟩ = some (.slice none 0 0) ∧ W.cell? ⟨w.heap.size + 1, 3, none⟩ = some (.slice none 0 0) ∧ W.cell? ⟨w.heap.size + 1, 4, none⟩ = some (.slice none 0 0)) ∧ (∀ j, W.frozen? ⟨w.heap.size + 1, j, none⟩ = false) ∧ W.cell? ⟨w.heap.size, 2, none⟩ = some (.slice a1 L.length c1)) := fun W hW =>
            ⟨⟨(hW.cell (p := ⟨w.heap.size + 1, 0, none⟩) hz).trans ((hc _ _ (by simp)).trans (by simp [go_sem])), (hW.cell (p := ⟨w.heap.size + 1, 1, none⟩) hz).trans ((hc _ _ (by simp)).trans (by simp [go_sem])), (hW.cell (p := ⟨w.heap.size + 1, 2, none⟩) hz).trans ((hc _ _ (by simp)).trans (by simp [go_sem])), (hW.cell (p := ⟨w.heap.size + 1, 3, none⟩) hz).trans ((hc _ _ (by simp)).trans (by simp [go_sem])), (hW.cell (p := ⟨w.heap.size + 1, 4, none⟩) hz).trans ((hc _ _ (by simp)).trans (by simp [go_sem]))⟩, fun j => (hW.frozen (p := ⟨w.heap.size + 1, j, none⟩) hz).trans ((hf _ _ (by simp)).trans (by simp [go_sem])), (hW.cell (p := ⟨w.heap.size, 2, none⟩) hy).trans ((hc _ _ (by simp; omega)).trans (by simp [go_sem]))⟩
          obtain ⟨-, -, x2⟩ := HBX.out w1 (Below.refl _ _)
          clear hc hf hb1 HC HSM
          go_wp2_with (at_builtin; refine wpList_append_texts rfl _ _ rfl w1.heap.size (.slice (some ⟨w1.heap.size, 0, none⟩) 0 0) 0 [] rfl (World.ownsRow_lit w1 #[] 0 (Nat.le_refl _) (by unfold maxLen; omega) rfl) a1 c1 L rfl (HX.out.below (hB1.alloc hB1.size _)) (by omega) (by simp) ?_)
          intro v2 w2 hown2 hg2
          have hb2 : Below w1.heap.size w1 w2 := ((Below.refl _ w1).alloc (Nat.le_refl _) _).grown hg2 (by simp) (fun j hj => by simp [Value.ownBlock] at hj; omega)
          clear HX x2
          go_wp2_with fail
          go_loopw [10, 11] (fun v i wr => ∃ k : Nat, k ≤ l.length ∧ i = .int .i64 k ∧ wr.ownsRow w1.heap.size 9 1 v (pushL L false (l.take k)).length (strs (pushL L false (l.take k))) ∧ Below w1.heap.size w1 wr) (fun _ i _ => l.length - (intOf i).toNat)
          case atStart => exact ⟨0, Nat.zero_le _, rfl, by rw [List.take_zero, pushL_none]; exact hown2, hb2⟩
          case round =>
            obtain ⟨k', hk', rfl, hown, hbr⟩ := hrel
            have hzr := hbr.size
            have hKl : (pushL L false (l.take k')).length ≤ 24 := by rw [pushL_len, List.length_take]; omega
            have BR : Below w.heap.size w wr := hB1.trans (hbr.mono hB1.size)
            obtain ⟨ao, cp, rfl⟩ := slice_own hown
            by_cases hlt : k' < l.length
            · have hlt' : ((k' : Nat) : Int) < ((l.length : Nat) : Int) := by omega
              obtain ⟨g, o, rfl, hcs⟩ : ∃ g o, al = some ⟨g, o, none⟩ ∧ ∀ i (h : i < l.length), w.cell? ⟨g, o + i, none⟩ = some (.string l[i]) := by
                rcases HL.out with h | h
                · subst h; simp at hlt
                · exact h
              have d0 : wr.cell? ⟨g, o + k', none⟩ = some (.string l[k']) := (BR.cell (p := ⟨g, o + k', none⟩) (World.block_lt_of_cell? _ _ (hcs k' hlt))).trans (hcs k' hlt)
              have HY := hide (pushL_step L l false hlt)
              clear hcs HL HBX HPZ
              generalize l[k'] = X at *
              generalize (pushL L false (l.take k')) = K at *
              go_wp2_with (at_builtin; refine wpList_append_own _ rfl _ _ 24 rfl w1.heap.size 9 i0 (.string ⟨#[]⟩) 1 16 Tryz.underlying24 hi hz0 hz1 hz2 rfl (by decide) _ _ _ rfl (hown.alloc _) ⟨wr.heap.size, 0, none⟩ 1 1 [.string X] rfl rfl ?c1 ?c2 ?c3 ?c4 ?c5 ?_)
              case c1 =>
                intro j u hj
                match j, hj with
                | 0, hj => simp at hj; subst hj; simp [Addr.add]
              case c2 => intro u hu; simp at hu; subst hu; rfl
              case c3 => unfold maxLen; omega
              case c4 => omega
              case c5 => simp; omega
              intro v' w4 hown4 hgrow _
              have hb4 : Below w1.heap.size w1 w4 := (hbr.alloc hzr _).grown hgrow (by simp; omega) (fun j hj => (hown.lt j hj).1)
              have hown5 : w4.ownsRow w1.heap.size 9 1 v' (pushL L false (l.take (k' + 1))).length (strs (pushL L false (l.take (k' + 1)))) := by
                rw [HY.out]
                simpa [strs] using hown4
              go_wp2_with fail
              go_roundw
              case rel => exact ⟨k' + 1, by omega, by go_num, hown5, hb4⟩
              case measure => simp [intOf]; omega
            · have hge : ¬ ((k' : Nat) : Int) < ((l.length : Nat) : Int) := by omega
              obtain rfl : k' = l.length := by omega
              rw [List.take_length] at hown hKl
              have HKI : Hid ((((pushL L false l).length : Nat) : Int) = ((L.length : Nat) : Int) + ((l.length : Nat) : Int)) := by rw [Hid, pushL_len, Int.natCast_add]
              obtain ⟨fk, fa, fn, fc, hF, hI⟩ := filled_item (p := fun w' => ∀ g o u, w1.heap.size ≤ g → wr.cell? ⟨g, o, none⟩ = some u → w'.cell? ⟨g, o, none⟩ = some u) (cp := cp) 2 (fun w' hw => texts_from hown hw) HPZ.out (by omega)
              simp only [kindI_two] at hI
              have HF := hide hF
              have HI := hide hI
              rw [List.take_length]
              clear hF hI hown HPZ HL
              go_wp2_with fail
              refine (HF.out _).mono ?_
              rintro e w3 ⟨rfl, hb3⟩
              have hb3' : Below w1.heap.size w1 w3 := hbr.trans (hb3.mono hzr)
              obtain ⟨⟨b0, b1, b2, b3, b4⟩, fz, x3⟩ := HBX.out w3 hb3'
              have fz0 := fz 0
              have fz1 := fz 1
              have fz2 := fz 2
              have fz3 := fz 3
              have fz4 := fz 4
              clear HBX fz
              go_wp2_with fail
              refine bodyPost_ret (v := .tuple #[.agg #[.int .i64 fk, .string ⟨#[]⟩, .slice fa fn fc, .slice none 0 0, .slice none 0 0], .int .i64 (((pushL L false l).length : Nat) : Int), .int .i64 0]) (by simp [results, Tryz.results32, go_sem, b0, b1, b2, b3, b4]) rfl ⟨_, by rw [HKI.out], ?_, ?_⟩
              · exact fun w'' hw => HI.out w'' (fun g' o' u' hg hu => hw g' o' u' (by omega) ((five_apart w3 (w.heap.size + 1) _ _ _ _ _ g' o' (by omega)).trans ((hb3.cell (p := ⟨g', o', none⟩) (World.block_lt_of_cell? wr _ hu)).trans hu)))
              · have hb3'' := hB1.trans (hb3'.mono hB1.size)
                go_grown
    · rw [if_pos hs0] at hE
      have hs0' : (someE l == 0) = false := by rw [beq_eq_false_iff_ne]; exact hs0
      rw [pushN, pushI, hE, if_neg hs0, if_neg hs0]
      clear hE h0 hxl hxe lz hlz HX HL
      generalize someE l = E at *
      generalize x.l = L at *
      generalize x.t = t at *
      generalize x.k = k at *
      generalize x.p.length = n2 at *
      generalize x.s.length = n3 at *
      go_enter Tryz.func32, Tryz.ntmps32
      go_wp2_with fail
      refine (HC.out _ (((Below.refl _ w).alloc (Nat.le_refl _) _).alloc (by simp) _)).mono ?_
      rintro e w1 ⟨rfl, hb1⟩
      obtain ⟨hc, hf⟩ := bcell hb1
      have hz : w.heap.size + 1 < w1.heap.size := by have := hb1.size; simp at this; omega
      have hy : w.heap.size < w1.heap.size := by omega
      have hB1 : Below w.heap.size w w1 := (((Below.refl _ w).alloc (Nat.le_refl _) _).alloc (by simp) _).trans (hb1.mono (by simp; omega))
      go_wp2_with fail
      refine (HSM.out w1 hB1).mono ?_
      rintro e w1 ⟨rfl, rfl⟩
      go_wp2_with fail
      refine bodyPost_ret (v := .tuple #[.agg #[.int .i64 0, .string ⟨#[]⟩, .slice none 0 0, .slice none 0 0, .slice none 0 0], .int .i64 0, .int .i64 E]) (by simp [results, Tryz.results32, go_sem, hc]) rfl ⟨_, rfl, fun w'' _ => zero_is w'', ?_⟩
      go_grown
  · have hE : pushE x l = asI x 2 := by rw [pushE, if_pos h0]
    have h0' : (asI x 2 == 0) = false := by rw [beq_eq_false_iff_ne]; exact h0
    rw [pushN, pushI, hE, if_neg h0, if_neg h0]
    clear hE HX HL HSM lz hlz
    generalize asI x 2 = E at *
    generalize x.l = L at *
    generalize x.t = t at *
    generalize x.k = k at *
    generalize x.p.length = n2 at *
    generalize x.s.length = n3 at *
    go_enter Tryz.func32, Tryz.ntmps32
    go_wp2_with fail
    refine (HC.out _ (((Below.refl _ w).alloc (Nat.le_refl _) _).alloc (by simp) _)).mono ?_
    rintro e w1 ⟨rfl, hb1⟩
    obtain ⟨hc, hf⟩ := bcell hb1
    have hz : w.heap.size + 1 < w1.heap.size := by have := hb1.size; simp at this; omega
    have hy : w.heap.size < w1.heap.size := by omega
    have hB1 : Below w.heap.size w w1 := (((Below.refl _ w).alloc (Nat.le_refl _) _).alloc (by simp) _).trans (hb1.mono (by simp; omega))
    go_wp2_with fail
    refine bodyPost_ret (v := .tuple #[.agg #[.int .i64 0, .string ⟨#[]⟩, .slice none 0 0, .slice none 0 0, .slice none 0 0], .int .i64 0, .int .i64 E]) (by simp [results, Tryz.results32, go_sem, hc]) rfl ⟨_, rfl, fun w'' _ => zero_is w'', ?_⟩
    go_grown
end Go.Proofs.YtcidoodaiimhfaaGreat

/- Rows of texts, pairs, scores: appending them, copies of them. -/
namespace Go.Proofs.YtcidoodaiimhfaaGreat.YT
open Go.RowKit
theorem infoStr : (Tryz.prog.info? 9).map (fun i => (i.zero, i.size, i.bytes)) = some (some (.string ⟨#[]⟩), 1, 16) := by kernel_rfl
def strs (l : List ByteArray) : List Value := l.map Value.string
theorem run_append_none (P : Program) (w : World) (base : Nat) (t ty e : TypeId) (i : TypeInfo) (size : Nat) (ht : P.underlying t = some (.slice e)) (hi : P.info? e = some i)
    (v : Value) (n : Nat) (xs : List Value) (hown : w.ownsRow base e size v n xs) (c : Nat) :
    (Builtin.append_ #[t, t] ty #[v, .slice none 0 c]).run P w = .ok v w := by
  rcases hown.2 with ⟨rfl, rfl⟩ | ⟨g, cap, cur, rfl, _, _, hnc, _⟩
  · simp [Builtin.append_, run_underlying ht, sizeOf, typeInfo, hi, Builtin.lenOf, Builtin.firstCells]
  · simp [Builtin.append_, run_underlying ht, sizeOf, typeInfo, hi, Builtin.lenOf, Builtin.firstCells, hnc, storeCells]
theorem strs_one (l : List ByteArray) : ∀ u ∈ strs l, u.oneCell' = true := by
  intro u hu
  obtain ⟨t, _, rfl⟩ := List.mem_map.1 hu
  rfl
theorem texts_news {w : World} {g o : Nat} {l : List ByteArray} (h : ∀ i (hi : i < l.length), w.cell? ⟨g, o + i, none⟩ = some (.string l[i])) : ∀ j u, (strs l)[j]? = some u → w.cell? ((⟨g, o, none⟩ : Addr).add j) = some u := by
  intro j u hj
  have hjl : j < l.length := by
    have := (List.getElem?_eq_some_iff.1 hj).1
    simpa [strs] using this
  have e : (⟨g, o, none⟩ : Addr).add j = ⟨g, o + j, none⟩ := by
    unfold Addr.add
    split
    · rename_i h; subst h; rfl
    · rfl
  rw [e, h j hjl, ← hj]
  simp [strs, hjl]
/-- append of texts to a row of one's own -/
theorem wpList_append_texts {w : World} {ops : Array Oper} {rest : List Oper} {o : Oper} {a : Act} {Q : Exit → Act → World → Prop}
    (hg : o.guard = none) (s x : Operand) (hop : o.op = .call { callee := .builtin .append, args := #[s, x], argTypes := #[24, 24] })
    (base : Nat) (v : Value) (n : Nat) (xs : List Value) (hs : a.eval s = v) (hown : w.ownsRow base 9 1 v n xs)
    (ad : Option Addr) (c : Nat) (l : List ByteArray) (hx : a.eval x = .slice ad l.length c) (hl : TextsAt w ad l) (h63 : n + l.length ≤ 2000000) (hbase : base ≤ w.heap.size)
    (hK : ∀ v' w', w'.ownsRow base 9 1 v' (n + l.length) (xs ++ strs l) → w.grownBy w' v.ownBlock → wpList Tryz.prog ops Q rest (a.put o.dst v') w') :
    wpList Tryz.prog ops Q (o :: rest) a w := by
  obtain ⟨i0, hi, hz0, hz1, hz2⟩ := info_parts infoStr
  refine wpList_plain hg fun K' hK' => ?_
  cases ad with
  | none =>
    obtain rfl : l = [] := by
      rcases hl with h | ⟨g, o, h, _⟩
      · exact h
      · cases h
    have hr := run_append_none Tryz.prog w base 24 o.type 9 i0 1 Tryz.underlying24 hi v n xs hown c
    unfold Oper.wp execOp
    simp only [hop, resolve, invoke, builtin, Sem.run_bind, Sem.run_pure, Result.andThen_ok, List.map_toArray, List.map_cons, List.map_nil, hs, hx, List.length_nil, hr]
    exact hK' _ _ (hK v w (by simpa [strs] using hown) (World.grownBy.refl _ _))
  | some ad =>
    refine wp_append_own (P := Tryz.prog) w s x 24 hop base 9 i0 (.string ⟨#[]⟩) 1 16 Tryz.underlying24 hi hz0 hz1 hz2 rfl (by decide) v n xs hs hown ad l.length c (strs l) hx (by simp [strs]) ?_ (strs_one l) (by unfold maxLen; omega) (by omega) hbase ?_
    · rcases hl with h | ⟨g, o, h, hc⟩
      · subst h
        intro j u hj
        simp [strs] at hj
      · injection h with h
        subst h
        exact texts_news hc
    · intro v' w' h1 h2 _
      exact hK' _ _ (hK v' w' h1 h2)

set_option maxRecDepth 100000 in
set_option maxHeartbeats 1000000 in
theorem cloneP_any (a : Option Addr) (c : Nat) (L : List ByteArray) (w : World) (hL : TextsAt w a L) (hn : L.length ≤ 1000000) :
    Calls Tryz.prog 99 #[.slice a L.length c] w fun e w' => ∃ v, e = .returned v ∧ w'.ownsRow w.heap.size 9 1 v L.length (strs L) ∧ Below w.heap.size w w' := by
  cases a with
  | none =>
    obtain rfl : L = [] := by
      rcases hL with h | ⟨g, o, h, _⟩
      · exact h
      · cases h
    have he : ∀ w : World, (binOp .eql 24 (.slice none 0 c) (.slice none 0 0)).run Tryz.prog w = .ok (.bool true) w := fun _ => rfl
    go_enter Tryz.func99, Tryz.ntmps99
    go_wp2_with fail
    go_ret
    exact ⟨_, rfl, World.ownsRow_nil _ _ _ _, Below.refl _ _⟩
  | some ad =>
    have HL := hide hL
    clear hL
    have HB : Below w.heap.size w (w.alloc (.cells #[] 9)) := (Below.refl _ w).alloc (Nat.le_refl _) _
    have HO : (w.alloc (.cells #[] 9)).ownsRow w.heap.size 9 1 (.slice (some ⟨w.heap.size, 0, none⟩) 0 0) 0 [] := World.ownsRow_lit w #[] 0 (Nat.le_refl _) (Nat.zero_le _) rfl
    have HLB := HL.out.below HB
    have he : ∀ w : World, (binOp .eql 24 (.slice (some ad) L.length c) (.slice none 0 0)).run Tryz.prog w = .ok (.bool false) w := fun _ => rfl
    go_enter Tryz.func99, Tryz.ntmps99
    go_wp2_with (at_builtin; refine wpList_append_texts rfl _ _ rfl w.heap.size _ 0 [] rfl HO (some ad) c L rfl HLB (by omega) (by simp) ?_)
    intro v2 w2 hown2 hg2
    have hb2 : Below w.heap.size w w2 := HB.grown hg2 HB.size (fun j hj => (HO.lt j hj).1)
    go_wp2_with fail
    go_ret
    exact ⟨v2, rfl, hown2, hb2⟩

end Go.Proofs.YtcidoodaiimhfaaGreat.YT
namespace Go.Proofs.YtcidoodaiimhfaaGreat.YP
open Go.RowKit
def rowP (l : List (ByteArray × ByteArray)) : List Value := (l.map fun p => [Value.string p.1, Value.string p.2]).flatten
theorem rowP_len (l : List (ByteArray × ByteArray)) : (rowP l).length = l.length * 2 := by
  induction l with
  | nil => rfl
  | cons p r ih => simp [rowP] at ih ⊢; omega
theorem rowP_snoc (l : List (ByteArray × ByteArray)) (p : ByteArray × ByteArray) : rowP (l ++ [p]) = rowP l ++ [.string p.1, .string p.2] := by simp [rowP]
theorem infoPair : (Tryz.prog.info? 87).map (fun i => (i.zero, i.size, i.bytes)) = some (some (.agg #[.string ⟨#[]⟩, .string ⟨#[]⟩]), 2, 32) := by kernel_rfl

theorem run_append_noneP (P : Program) (w : World) (base : Nat) (t ty e : TypeId) (i : TypeInfo) (size : Nat) (ht : P.underlying t = some (.slice e)) (hi : P.info? e = some i)
    (v : Value) (n : Nat) (xs : List Value) (hown : w.ownsRow base e size v n xs) (c : Nat) :
    (Builtin.append_ #[t, t] ty #[v, .slice none 0 c]).run P w = .ok v w := by
  rcases hown.2 with ⟨rfl, rfl⟩ | ⟨g, cap, cur, rfl, _, _, hnc, _⟩
  · simp [Builtin.append_, run_underlying ht, sizeOf, typeInfo, hi, Builtin.lenOf, Builtin.firstCells]
  · simp [Builtin.append_, run_underlying ht, sizeOf, typeInfo, hi, Builtin.lenOf, Builtin.firstCells, hnc, storeCells]
theorem rowP_one (l : List (ByteArray × ByteArray)) : ∀ u ∈ rowP l, u.oneCell' = true := by
  induction l with
  | nil => intro u hu; cases hu
  | cons p r ih =>
    intro u hu
    have e : rowP (p :: r) = .string p.1 :: .string p.2 :: rowP r := rfl
    rw [e] at hu
    rcases List.mem_cons.1 hu with rfl | hu
    · rfl
    · rcases List.mem_cons.1 hu with rfl | hu
      · rfl
      · exact ih u hu
theorem rowP_at (l : List (ByteArray × ByteArray)) (i : Nat) (h : i < l.length) : (rowP l)[i * 2]? = some (.string l[i].1) ∧ (rowP l)[i * 2 + 1]? = some (.string l[i].2) := by
  induction l generalizing i with
  | nil => simp at h
  | cons p r ih =>
    have e : rowP (p :: r) = .string p.1 :: .string p.2 :: rowP r := rfl
    rw [e]
    cases i with
    | zero => exact ⟨rfl, rfl⟩
    | succ i =>
      have := ih i (by simpa using h)
      rw [show (i + 1) * 2 = i * 2 + 1 + 1 by omega]
      simpa using this
theorem pairs_news {w : World} {g o : Nat} {l : List (ByteArray × ByteArray)} (h : ∀ i (hi : i < l.length), w.cell? ⟨g, o + i * 2, none⟩ = some (.string l[i].1) ∧ w.cell? ⟨g, o + i * 2 + 1, none⟩ = some (.string l[i].2)) : ∀ j u, (rowP l)[j]? = some u → w.cell? ((⟨g, o, none⟩ : Addr).add j) = some u := by
  intro j u hj
  have hjl : j < l.length * 2 := by
    have := (List.getElem?_eq_some_iff.1 hj).1
    rwa [rowP_len] at this
  have e : (⟨g, o, none⟩ : Addr).add j = ⟨g, o + j, none⟩ := by
    unfold Addr.add
    split
    · rename_i h; subst h; rfl
    · rfl
  have hq : j / 2 < l.length := by omega
  obtain ⟨r1, r2⟩ := rowP_at l (j / 2) hq
  obtain ⟨d1, d2⟩ := h (j / 2) hq
  rw [e]
  by_cases hm : j % 2 = 0
  · have e1 : j = j / 2 * 2 := by omega
    rw [← e1] at r1
    rw [show o + j = o + j / 2 * 2 by omega, d1, ← r1, hj]
  · have e1 : j = j / 2 * 2 + 1 := by omega
    rw [← e1] at r2
    rw [show o + j = o + j / 2 * 2 + 1 by omega, d2, ← r2, hj]
/-- append of texts to a row of one's own -/
theorem wpList_append_pairs {w : World} {ops : Array Oper} {rest : List Oper} {o : Oper} {a : Act} {Q : Exit → Act → World → Prop}
    (hg : o.guard = none) (s x : Operand) (hop : o.op = .call { callee := .builtin .append, args := #[s, x], argTypes := #[25, 25] })
    (base : Nat) (v : Value) (n : Nat) (xs : List Value) (hs : a.eval s = v) (hown : w.ownsRow base 87 2 v n xs)
    (ad : Option Addr) (c : Nat) (l : List (ByteArray × ByteArray)) (hx : a.eval x = .slice ad l.length c) (hl : PairsAt w ad l) (h63 : n + l.length ≤ 2000000) (hbase : base ≤ w.heap.size)
    (hK : ∀ v' w', w'.ownsRow base 87 2 v' (n + l.length) (xs ++ rowP l) → w.grownBy w' v.ownBlock → wpList Tryz.prog ops Q rest (a.put o.dst v') w') :
    wpList Tryz.prog ops Q (o :: rest) a w := by
  obtain ⟨i0, hi, hz0, hz1, hz2⟩ := info_parts infoPair
  refine wpList_plain hg fun K' hK' => ?_
  cases ad with
  | none =>
    obtain rfl : l = [] := by
      rcases hl with h | ⟨g, o, h, _⟩
      · exact h
      · cases h
    have hr := run_append_noneP Tryz.prog w base 25 o.type 87 i0 2 Tryz.underlying25 hi v n xs hown c
    unfold Oper.wp execOp
    simp only [hop, resolve, invoke, builtin, Sem.run_bind, Sem.run_pure, Result.andThen_ok, List.map_toArray, List.map_cons, List.map_nil, hs, hx, List.length_nil, hr]
    exact hK' _ _ (hK v w (by simpa [rowP] using hown) (World.grownBy.refl _ _))
  | some ad =>
    refine wp_append_own (P := Tryz.prog) w s x 25 hop base 87 i0 (.agg #[.string ⟨#[]⟩, .string ⟨#[]⟩]) 2 32 Tryz.underlying25 hi hz0 hz1 hz2 rfl (by decide) v n xs hs hown ad l.length c (rowP l) hx (by rw [rowP_len]) ?_ (rowP_one l) (by unfold maxLen; omega) (by omega) hbase ?_
    · rcases hl with h | ⟨g, o, h, hc⟩
      · subst h
        intro j u hj
        simp [rowP] at hj
      · injection h with h
        subst h
        exact pairs_news hc
    · intro v' w' h1 h2 _
      exact hK' _ _ (hK v' w' h1 h2)

set_option maxRecDepth 100000 in
set_option maxHeartbeats 1000000 in
theorem cloneP_any (a : Option Addr) (c : Nat) (L : List (ByteArray × ByteArray)) (w : World) (hL : PairsAt w a L) (hn : L.length ≤ 1000000) :
    Calls Tryz.prog 110 #[.slice a L.length c] w fun e w' => ∃ v, e = .returned v ∧ w'.ownsRow w.heap.size 87 2 v L.length (rowP L) ∧ Below w.heap.size w w' := by
  cases a with
  | none =>
    obtain rfl : L = [] := by
      rcases hL with h | ⟨g, o, h, _⟩
      · exact h
      · cases h
    have he : ∀ w : World, (binOp .eql 25 (.slice none 0 c) (.slice none 0 0)).run Tryz.prog w = .ok (.bool true) w := fun _ => rfl
    go_enter Tryz.func110, Tryz.ntmps110
    go_wp2_with fail
    go_ret
    exact ⟨_, rfl, World.ownsRow_nil _ _ _ _, Below.refl _ _⟩
  | some ad =>
    have HL := hide hL
    clear hL
    have HB : Below w.heap.size w (w.alloc (.cells #[] 87)) := (Below.refl _ w).alloc (Nat.le_refl _) _
    have HO : (w.alloc (.cells #[] 87)).ownsRow w.heap.size 87 2 (.slice (some ⟨w.heap.size, 0, none⟩) 0 0) 0 [] := World.ownsRow_lit w #[] 0 (Nat.le_refl _) (Nat.zero_le _) rfl
    have HLB := HL.out.below HB
    have he : ∀ w : World, (binOp .eql 25 (.slice (some ad) L.length c) (.slice none 0 0)).run Tryz.prog w = .ok (.bool false) w := fun _ => rfl
    go_enter Tryz.func110, Tryz.ntmps110
    go_wp2_with (at_builtin; refine wpList_append_pairs rfl _ _ rfl w.heap.size _ 0 [] rfl HO (some ad) c L rfl HLB (by omega) (by simp) ?_)
    intro v2 w2 hown2 hg2
    have hb2 : Below w.heap.size w w2 := HB.grown hg2 HB.size (fun j hj => (HO.lt j hj).1)
    go_wp2_with fail
    go_ret
    exact ⟨v2, rfl, hown2, hb2⟩

end Go.Proofs.YtcidoodaiimhfaaGreat.YP
namespace Go.Proofs.YtcidoodaiimhfaaGreat.YS
open Go.RowKit
def rowP (l : List (Int × ByteArray)) : List Value := (l.map fun p => [Value.int .i64 p.1, Value.string p.2]).flatten
theorem rowP_len (l : List (Int × ByteArray)) : (rowP l).length = l.length * 2 := by
  induction l with
  | nil => rfl
  | cons p r ih => simp [rowP] at ih ⊢; omega
theorem rowP_snoc (l : List (Int × ByteArray)) (p : Int × ByteArray) : rowP (l ++ [p]) = rowP l ++ [.int .i64 p.1, .string p.2] := by simp [rowP]
theorem infoScore : (Tryz.prog.info? 89).map (fun i => (i.zero, i.size, i.bytes)) = some (some (.agg #[.int .i64 0, .string ⟨#[]⟩]), 2, 24) := by kernel_rfl

theorem run_append_noneP (P : Program) (w : World) (base : Nat) (t ty e : TypeId) (i : TypeInfo) (size : Nat) (ht : P.underlying t = some (.slice e)) (hi : P.info? e = some i)
    (v : Value) (n : Nat) (xs : List Value) (hown : w.ownsRow base e size v n xs) (c : Nat) :
    (Builtin.append_ #[t, t] ty #[v, .slice none 0 c]).run P w = .ok v w := by
  rcases hown.2 with ⟨rfl, rfl⟩ | ⟨g, cap, cur, rfl, _, _, hnc, _⟩
  · simp [Builtin.append_, run_underlying ht, sizeOf, typeInfo, hi, Builtin.lenOf, Builtin.firstCells]
  · simp [Builtin.append_, run_underlying ht, sizeOf, typeInfo, hi, Builtin.lenOf, Builtin.firstCells, hnc, storeCells]
theorem rowP_one (l : List (Int × ByteArray)) : ∀ u ∈ rowP l, u.oneCell' = true := by
  induction l with
  | nil => intro u hu; cases hu
  | cons p r ih =>
    intro u hu
    have e : rowP (p :: r) = .int .i64 p.1 :: .string p.2 :: rowP r := rfl
    rw [e] at hu
    rcases List.mem_cons.1 hu with rfl | hu
    · rfl
    · rcases List.mem_cons.1 hu with rfl | hu
      · rfl
      · exact ih u hu
theorem rowP_at (l : List (Int × ByteArray)) (i : Nat) (h : i < l.length) : (rowP l)[i * 2]? = some (.int .i64 l[i].1) ∧ (rowP l)[i * 2 + 1]? = some (.string l[i].2) := by
  induction l generalizing i with
  | nil => simp at h
  | cons p r ih =>
    have e : rowP (p :: r) = .int .i64 p.1 :: .string p.2 :: rowP r := rfl
    rw [e]
    cases i with
    | zero => exact ⟨rfl, rfl⟩
    | succ i =>
      have := ih i (by simpa using h)
      rw [show (i + 1) * 2 = i * 2 + 1 + 1 by omega]
      simpa using this
theorem pairs_news {w : World} {g o : Nat} {l : List (Int × ByteArray)} (h : ∀ i (hi : i < l.length), w.cell? ⟨g, o + i * 2, none⟩ = some (.int .i64 l[i].1) ∧ w.cell? ⟨g, o + i * 2 + 1, none⟩ = some (.string l[i].2)) : ∀ j u, (rowP l)[j]? = some u → w.cell? ((⟨g, o, none⟩ : Addr).add j) = some u := by
  intro j u hj
  have hjl : j < l.length * 2 := by
    have := (List.getElem?_eq_some_iff.1 hj).1
    rwa [rowP_len] at this
  have e : (⟨g, o, none⟩ : Addr).add j = ⟨g, o + j, none⟩ := by
    unfold Addr.add
    split
    · rename_i h; subst h; rfl
    · rfl
  have hq : j / 2 < l.length := by omega
  obtain ⟨r1, r2⟩ := rowP_at l (j / 2) hq
  obtain ⟨d1, d2⟩ := h (j / 2) hq
  rw [e]
  by_cases hm : j % 2 = 0
  · have e1 : j = j / 2 * 2 := by omega
    rw [← e1] at r1
    rw [show o + j = o + j / 2 * 2 by omega, d1, ← r1, hj]
  · have e1 : j = j / 2 * 2 + 1 := by omega
    rw [← e1] at r2
    rw [show o + j = o + j / 2 * 2 + 1 by omega, d2, ← r2, hj]
/-- append of texts to a row of one's own -/
theorem wpList_append_pairs {w : World} {ops : Array Oper} {rest : List Oper} {o : Oper} {a : Act} {Q : Exit → Act → World → Prop}
    (hg : o.guard = none) (s x : Operand) (hop : o.op = .call { callee := .builtin .append, args := #[s, x], argTypes := #[26, 26] })
    (base : Nat) (v : Value) (n : Nat) (xs : List Value) (hs : a.eval s = v) (hown : w.ownsRow base 89 2 v n xs)
    (ad : Option Addr) (c : Nat) (l : List (Int × ByteArray)) (hx : a.eval x = .slice ad l.length c) (hl : ScoresAt w ad l) (h63 : n + l.length ≤ 2000000) (hbase : base ≤ w.heap.size)
    (hK : ∀ v' w', w'.ownsRow base 89 2 v' (n + l.length) (xs ++ rowP l) → w.grownBy w' v.ownBlock → wpList Tryz.prog ops Q rest (a.put o.dst v') w') :
    wpList Tryz.prog ops Q (o :: rest) a w := by
  obtain ⟨i0, hi, hz0, hz1, hz2⟩ := info_parts infoScore
  refine wpList_plain hg fun K' hK' => ?_
  cases ad with
  | none =>
    obtain rfl : l = [] := by
      rcases hl with h | ⟨g, o, h, _⟩
      · exact h
      · cases h
    have hr := run_append_noneP Tryz.prog w base 26 o.type 89 i0 2 Tryz.underlying26 hi v n xs hown c
    unfold Oper.wp execOp
    simp only [hop, resolve, invoke, builtin, Sem.run_bind, Sem.run_pure, Result.andThen_ok, List.map_toArray, List.map_cons, List.map_nil, hs, hx, List.length_nil, hr]
    exact hK' _ _ (hK v w (by simpa [rowP] using hown) (World.grownBy.refl _ _))
  | some ad =>
    refine wp_append_own (P := Tryz.prog) w s x 26 hop base 89 i0 (.agg #[.int .i64 0, .string ⟨#[]⟩]) 2 24 Tryz.underlying26 hi hz0 hz1 hz2 rfl (by decide) v n xs hs hown ad l.length c (rowP l) hx (by rw [rowP_len]) ?_ (rowP_one l) (by unfold maxLen; omega) (by omega) hbase ?_
    · rcases hl with h | ⟨g, o, h, hc⟩
      · subst h
        intro j u hj
        simp [rowP] at hj
      · injection h with h
        subst h
        exact pairs_news hc
    · intro v' w' h1 h2 _
      exact hK' _ _ (hK v' w' h1 h2)

set_option maxRecDepth 100000 in
set_option maxHeartbeats 1000000 in
theorem cloneP_any (a : Option Addr) (c : Nat) (L : List (Int × ByteArray)) (w : World) (hL : ScoresAt w a L) (hn : L.length ≤ 1000000) :
    Calls Tryz.prog 116 #[.slice a L.length c] w fun e w' => ∃ v, e = .returned v ∧ w'.ownsRow w.heap.size 89 2 v L.length (rowP L) ∧ Below w.heap.size w w' := by
  cases a with
  | none =>
    obtain rfl : L = [] := by
      rcases hL with h | ⟨g, o, h, _⟩
      · exact h
      · cases h
    have he : ∀ w : World, (binOp .eql 26 (.slice none 0 c) (.slice none 0 0)).run Tryz.prog w = .ok (.bool true) w := fun _ => rfl
    go_enter Tryz.func116, Tryz.ntmps116
    go_wp2_with fail
    go_ret
    exact ⟨_, rfl, World.ownsRow_nil _ _ _ _, Below.refl _ _⟩
  | some ad =>
    have HL := hide hL
    clear hL
    have HB : Below w.heap.size w (w.alloc (.cells #[] 89)) := (Below.refl _ w).alloc (Nat.le_refl _) _
    have HO : (w.alloc (.cells #[] 89)).ownsRow w.heap.size 89 2 (.slice (some ⟨w.heap.size, 0, none⟩) 0 0) 0 [] := World.ownsRow_lit w #[] 0 (Nat.le_refl _) (Nat.zero_le _) rfl
    have HLB := HL.out.below HB
    have he : ∀ w : World, (binOp .eql 26 (.slice (some ad) L.length c) (.slice none 0 0)).run Tryz.prog w = .ok (.bool false) w := fun _ => rfl
    go_enter Tryz.func116, Tryz.ntmps116
    go_wp2_with (at_builtin; refine wpList_append_pairs rfl _ _ rfl w.heap.size _ 0 [] rfl HO (some ad) c L rfl HLB (by omega) (by simp) ?_)
    intro v2 w2 hown2 hg2
    have hb2 : Below w.heap.size w w2 := HB.grown hg2 HB.size (fun j hj => (HO.lt j hj).1)
    go_wp2_with fail
    go_ret
    exact ⟨v2, rfl, hown2, hb2⟩

end Go.Proofs.YtcidoodaiimhfaaGreat.YS

/- Spaces: entries as plain data, and as they lie in memory. -/
namespace Go.Proofs.YtcidoodaiimhfaaGreat
open Go.RowKit

structure Ent where
  key : ByteArray
  item : Itm
  til : Int
def Ent.none : Ent := ⟨⟨#[]⟩, Itm.none, 0⟩
instance : Inhabited Ent := ⟨Ent.none⟩
/-- is it gone? -/
def goneE (e : Ent) (now : Int) : Bool := decide (e.til ≠ 0 ∧ e.til ≤ now)
def timeT (n : Int) : Bool := decide (0 ≤ n ∧ n ≤ 1000000)
/-- what is wrong with an entry -/
def chkE (e : Ent) : Int := if longT e.key = true then 2 else if chkI e.item ≠ 0 then chkI e.item else if timeT e.til = true then 0 else 3
instance decLessT (a b : ByteArray) : Decidable (lessT a b) := inferInstanceAs (Decidable (a.data.toList < b.data.toList))
/-- does it stand behind? -/
def behindE : Option ByteArray → Ent → Bool
  | none, _ => true
  | some k, e => decide (lessT k e.key)
/-- what is wrong with entries, behind a key -/
def chkFrom : Option ByteArray → List Ent → Int
  | _, [] => 0
  | p, e :: r => if chkE e ≠ 0 then chkE e else if behindE p e = true then chkFrom (some e.key) r else 4
/-- .. with a space -/
def chkSp (s : List Ent) : Int := if 16 < s.length then 2 else chkFrom none s
/-- .. and with what time it is -/
def chkAt (s : List Ent) (now : Int) : Int := if chkSp s ≠ 0 then chkSp s else if timeT now = true then 0 else 3
/-- .. and with a key that is asked for -/
def chkKey (s : List Ent) (now : Int) (key : ByteArray) : Int := if chkAt s now ≠ 0 then chkAt s now else if longT key = true then 2 else 0
/-- the key ahead of a place -/
def aheadE (s : List Ent) (i : Nat) : Option ByteArray := if i = 0 then none else some (s[i - 1]!).key
theorem chkFrom_at (s : List Ent) (i : Nat) (hi : i < s.length) : chkFrom (aheadE s i) (s.drop i) = if chkE s[i] ≠ 0 then chkE s[i] else if behindE (aheadE s i) s[i] = true then chkFrom (aheadE s (i + 1)) (s.drop (i + 1)) else 4 := by
  rw [List.drop_eq_getElem_cons hi, chkFrom]
  have e : aheadE s (i + 1) = some s[i].key := by rw [aheadE, if_neg (by omega)]; simp [hi]
  rw [e]
/-- what a right space has -/
structure SpRight (s : List Ent) : Prop where
  n : s.length ≤ 16
  e : ∀ x ∈ s, chkE x = 0
  r : s.Pairwise fun a b => lessT a.key b.key
theorem chkFrom_right : ∀ (p : Option ByteArray) (s : List Ent), chkFrom p s = 0 → (∀ x ∈ s, chkE x = 0) ∧ (s.Pairwise fun a b => lessT a.key b.key) ∧ ∀ k, p = some k → ∀ x ∈ s, lessT k x.key
  | _, [], _ => ⟨by simp, List.Pairwise.nil, by simp⟩
  | p, e :: r, h => by
    rw [chkFrom] at h
    split at h
    · rename_i h1; exact absurd h h1
    · rename_i h1
      have h1 : chkE e = 0 := by simpa using h1
      split at h
      · rename_i h2
        obtain ⟨a, b, c⟩ := chkFrom_right (some e.key) r h
        have hb := c e.key rfl
        refine ⟨fun x hx => ?_, List.pairwise_cons.2 ⟨hb, b⟩, fun k hk x hx => ?_⟩
        · rcases List.mem_cons.1 hx with rfl | hx
          · exact h1
          · exact a x hx
        · subst hk
          have h3 : lessT k e.key := by simpa [behindE] using h2
          rcases List.mem_cons.1 hx with rfl | hx
          · exact h3
          · exact lessT_trans h3 (hb x hx)
      · cases h
theorem spRight {s : List Ent} (h : chkSp s = 0) : SpRight s := by
  unfold chkSp at h
  split at h
  · cases h
  · rename_i h1
    obtain ⟨a, b, -⟩ := chkFrom_right none s h
    exact ⟨by omega, a, b⟩
theorem chkE_right {e : Ent} (h : chkE e = 0) : e.key.size ≤ 60 ∧ chkI e.item = 0 ∧ 0 ≤ e.til ∧ e.til ≤ 1000000 := by
  unfold chkE at h
  split at h
  · cases h
  · rename_i h1
    split at h
    · rename_i h2; exact absurd h h2
    · rename_i h2
      split at h
      · rename_i h3
        unfold timeT at h3
        have h4 : longT e.key = false := by simpa using h1
        unfold longT at h4
        simp at h3 h4 h2
        exact ⟨by omega, h2, h3.1, h3.2⟩
      · cases h
theorem small_sp {s : List Ent} (h : chkSp s = 0) : s.length ≤ 1000000 := by
  have := (spRight h).n
  omega
theorem small_at {s : List Ent} {now : Int} (h : chkAt s now = 0) : s.length ≤ 1000000 := by
  unfold chkAt at h
  by_cases h1 : chkSp s = 0
  · exact small_sp h1
  · rw [if_pos h1] at h; exact absurd h h1
theorem small_key {s : List Ent} {now : Int} {key : ByteArray} (h : chkKey s now key = 0) : s.length ≤ 1000000 := by
  unfold chkKey at h
  by_cases h1 : chkAt s now = 0
  · exact small_at h1
  · rw [if_pos h1] at h; exact absurd h h1
/-- an entry that lies in memory -/
def EntAt (w : World) (g o : Nat) (e : Ent) : Prop := ∃ a1 c1 a2 c2 a3 c3,
  (w.cell? ⟨g, o, none⟩ = some (.string e.key) ∧ w.cell? ⟨g, o + 1, none⟩ = some (.int .i64 e.item.k) ∧ w.cell? ⟨g, o + 2, none⟩ = some (.string e.item.t) ∧ w.cell? ⟨g, o + 3, none⟩ = some (.slice a1 e.item.l.length c1) ∧ w.cell? ⟨g, o + 4, none⟩ = some (.slice a2 e.item.p.length c2) ∧ w.cell? ⟨g, o + 5, none⟩ = some (.slice a3 e.item.s.length c3) ∧ w.cell? ⟨g, o + 6, none⟩ = some (.int .i64 e.til)) ∧
  ItemIs w (.agg #[.int .i64 e.item.k, .string e.item.t, .slice a1 e.item.l.length c1, .slice a2 e.item.p.length c2, .slice a3 e.item.s.length c3]) e.item
theorem EntAt.below {w w' : World} {g o : Nat} {e : Ent} (h : EntAt w g o e) (hb : Below w.heap.size w w') : EntAt w' g o e := by
  have hm : ∀ g o v, w.cell? ⟨g, o, none⟩ = some v → w'.cell? ⟨g, o, none⟩ = some v := fun g o v hv => (hb.cell (p := ⟨g, o, none⟩) (World.block_lt_of_cell? _ _ hv)).trans hv
  obtain ⟨a1, c1, a2, c2, a3, c3, ⟨h0, h1, h2, h3, h4, h5, h6⟩, hi⟩ := h
  exact ⟨a1, c1, a2, c2, a3, c3, ⟨hm _ _ _ h0, hm _ _ _ h1, hm _ _ _ h2, hm _ _ _ h3, hm _ _ _ h4, hm _ _ _ h5, hm _ _ _ h6⟩, hi.below hb⟩
/-- a space that lies in memory -/
def SpaceAt (w : World) (a : Option Addr) (s : List Ent) : Prop := s = [] ∨ ∃ g o, a = some ⟨g, o, none⟩ ∧ ∀ i (h : i < s.length), EntAt w g (o + i * 7) s[i]
theorem SpaceAt.below {w w' : World} {a : Option Addr} {s : List Ent} (h : SpaceAt w a s) (hb : Below w.heap.size w w') : SpaceAt w' a s := by
  rcases h with h | ⟨g, o, ha, hc⟩
  · exact .inl h
  · exact .inr ⟨g, o, ha, fun i hi => (hc i hi).below hb⟩
/-- an entry as a value -/
def EntIs (w : World) (v : Value) (e : Ent) : Prop := ∃ a1 c1 a2 c2 a3 c3,
  v = .agg #[.string e.key, .int .i64 e.item.k, .string e.item.t, .slice a1 e.item.l.length c1, .slice a2 e.item.p.length c2, .slice a3 e.item.s.length c3, .int .i64 e.til] ∧
  ItemIs w (.agg #[.int .i64 e.item.k, .string e.item.t, .slice a1 e.item.l.length c1, .slice a2 e.item.p.length c2, .slice a3 e.item.s.length c3]) e.item
theorem EntIs.below {w w' : World} {v : Value} {e : Ent} (h : EntIs w v e) (hb : Below w.heap.size w w') : EntIs w' v e := by
  obtain ⟨a1, c1, a2, c2, a3, c3, h0, hi⟩ := h
  exact ⟨a1, c1, a2, c2, a3, c3, h0, hi.below hb⟩
end Go.Proofs.YtcidoodaiimhfaaGreat

/- An item as new memory: common.Copy. -/
namespace Go.Proofs.YtcidoodaiimhfaaGreat
open Go.RowKit

theorem slice_ownY {w : World} {b e s : Nat} {v : Value} {n : Nat} {xs : List Value} (h : w.ownsRow b e s v n xs) : ∃ ao cp, v = .slice ao n cp := by
  rcases h.2 with ⟨rfl, rfl⟩ | ⟨g, cap, cur, rfl, _⟩
  · exact ⟨none, 0, rfl⟩
  · exact ⟨_, _, rfl⟩
/-- an item whose lists lie in memory of its own, from a block on -/
def OwnItem (B : Nat) (w : World) (v : Value) (x : Itm) : Prop := ∃ a1 c1 a2 c2 a3 c3,
  v = .agg #[.int .i64 x.k, .string x.t, .slice a1 x.l.length c1, .slice a2 x.p.length c2, .slice a3 x.s.length c3] ∧
  w.ownsRow B 9 1 (.slice a1 x.l.length c1) x.l.length (YT.strs x.l) ∧ w.ownsRow B 87 2 (.slice a2 x.p.length c2) x.p.length (YP.rowP x.p) ∧ w.ownsRow B 89 2 (.slice a3 x.s.length c3) x.s.length (YS.rowP x.s)
theorem row_keptY {B B2 T s : Nat} {w w' : World} {v : Value} {n : Nat} {xs : List Value} (h : w.ownsRow B T s v n xs) {S : Nat → Prop} (hk : Kept S w w') (hb : B2 ≤ B) (hT : T ≠ 45)
    (hS : ∀ k cs T, B ≤ k → w.heap[k]? = some (.cells cs T (0, 0)) → T ≠ 45 → ¬ S k) : w'.ownsRow B2 T s v n xs := by
  have hlt : ∀ {k : Nat} {o : Obj}, w.heap[k]? = some o → k < w.heap.size := fun {k o} hx => by
    rcases Nat.lt_or_ge k w.heap.size with h | h
    · exact h
    · rw [Array.getElem?_eq_none (by simpa using h)] at hx; simp at hx
  refine ⟨h.1, ?_⟩
  rcases h.2 with hn | ⟨g, cp, cur, e1, e2, e3, rest⟩
  · exact .inl hn
  · exact .inr ⟨g, cp, cur, e1, by omega, (hk.block g (hlt e3) (hS g _ T e2 e3 hT)).trans e3, rest⟩
theorem row_belowY {B T s : Nat} {w w' : World} {v : Value} {n : Nat} {xs : List Value} (h : w.ownsRow B T s v n xs) (hb : Below w.heap.size w w') : w'.ownsRow B T s v n xs := by
  refine ⟨h.1, ?_⟩
  rcases h.2 with hn | ⟨g, cp, cur, e1, e2, e3, rest⟩
  · exact .inl hn
  · exact .inr ⟨g, cp, cur, e1, e2, (hb.block g (Array.getElem?_eq_some_iff.1 e3).1).trans e3, rest⟩
theorem row_lowY {B B2 T s : Nat} {w : World} {v : Value} {n : Nat} {xs : List Value} (h : w.ownsRow B T s v n xs) (hb : B2 ≤ B) : w.ownsRow B2 T s v n xs := by
  refine ⟨h.1, ?_⟩
  rcases h.2 with hn | ⟨g, cp, cur, e1, e2, rest⟩
  · exact .inl hn
  · exact .inr ⟨g, cp, cur, e1, by omega, rest⟩
theorem setCell_heapY {w : World} {g : Nat} {cs : Array Value} {T : Nat} {fr : Nat × Nat} (h : w.heap[g]? = some (.cells cs T fr)) (o : Nat) (u : Value) : (w.setCell ⟨g, o, none⟩ u).heap[g]? = some (.cells (cs.setIfInBounds o u) T fr) := by
  simp [World.setCell, Array.getElem?_modify, h]
theorem allocY_new (w : World) (o : Obj) : (w.alloc o).heap[w.heap.size]? = some o := by
  show (w.heap.push o)[w.heap.size]? = some o
  simp
theorem OwnItem.kept {B B2 : Nat} {w w' : World} {v : Value} {x : Itm} (h : OwnItem B w v x) {S : Nat → Prop} (hk : Kept S w w') (hb : B2 ≤ B)
    (hS : ∀ k cs T, B ≤ k → w.heap[k]? = some (.cells cs T (0, 0)) → T ≠ 45 → ¬ S k) : OwnItem B2 w' v x := by
  obtain ⟨a1, c1, a2, c2, a3, c3, h0, h1, h2, h3⟩ := h
  exact ⟨a1, c1, a2, c2, a3, c3, h0, row_keptY h1 hk hb (by decide) hS, row_keptY h2 hk hb (by decide) hS, row_keptY h3 hk hb (by decide) hS⟩

set_option maxRecDepth 100000 in
set_option maxHeartbeats 4000000 in
theorem copy_any (v : Value) (x : Itm) (w : World) (h : ItemIs w v x) (hl : x.l.length ≤ 1000000) (hp : x.p.length ≤ 1000000) (hs : x.s.length ≤ 1000000) :
    Calls Tryz.prog 53 #[v] w fun e w' => ∃ v', e = .returned v' ∧ OwnItem w.heap.size w' v' x ∧ Below w.heap.size w w' := by
  obtain ⟨a1, c1, a2, c2, a3, c3, rfl, h1, h2, h3⟩ := h.ex
  have H1 : Hid (∀ W, Below w.heap.size w W → Calls Tryz.prog 99 #[.slice a1 x.l.length c1] W fun e w' => ∃ v, e = .returned v ∧ w'.ownsRow W.heap.size 9 1 v x.l.length (YT.strs x.l) ∧ Below W.heap.size W w') := fun W hW => YT.cloneP_any a1 c1 x.l W (h1.below hW) hl
  have H2 : Hid (∀ W, Below w.heap.size w W → Calls Tryz.prog 110 #[.slice a2 x.p.length c2] W fun e w' => ∃ v, e = .returned v ∧ w'.ownsRow W.heap.size 87 2 v x.p.length (YP.rowP x.p) ∧ Below W.heap.size W w') := fun W hW => YP.cloneP_any a2 c2 x.p W (h2.below hW) hp
  have H3 : Hid (∀ W, Below w.heap.size w W → Calls Tryz.prog 116 #[.slice a3 x.s.length c3] W fun e w' => ∃ v, e = .returned v ∧ w'.ownsRow W.heap.size 89 2 v x.s.length (YS.rowP x.s) ∧ Below W.heap.size W w') := fun W hW => YS.cloneP_any a3 c3 x.s W (h3.below hW) hs
  clear h1 h2 h3
  obtain ⟨k, hk⟩ : ∃ k, x.k = k := ⟨_, rfl⟩
  obtain ⟨t, ht⟩ : ∃ t, x.t = t := ⟨_, rfl⟩
  rw [hk, ht]
  have HKT := hide (And.intro hk ht)
  clear hk ht
  obtain ⟨W1, hW1⟩ : ∃ W1, (w.alloc (.cells #[.int .i64 k, .string t, .slice a1 x.l.length c1, .slice a2 x.p.length c2, .slice a3 x.s.length c3] 28)).alloc (.cells #[.int .i64 0, .string ⟨#[]⟩, .slice none 0 0, .slice none 0 0, .slice none 0 0] 28) = W1 := ⟨_, rfl⟩
  have HB : Below w.heap.size w W1 := hW1 ▸ ((Below.refl _ w).alloc (Nat.le_refl _) _).alloc (by simp) _
  have HH : W1.heap[w.heap.size]? = some (.cells #[.int .i64 k, .string t, .slice a1 x.l.length c1, .slice a2 x.p.length c2, .slice a3 x.s.length c3] 28 (0, 0)) := by
    rw [← hW1]
    have h1 := allocY_new w (.cells #[.int .i64 k, .string t, .slice a1 x.l.length c1, .slice a2 x.p.length c2, .slice a3 x.s.length c3] 28)
    exact (((Below.refl _ _).alloc (Nat.le_refl _) _ : Below _ _ _).block _ (Array.getElem?_eq_some_iff.1 h1).1).trans h1
  have HR : W1.heap[w.heap.size + 1]? = some (.cells #[.int .i64 0, .string ⟨#[]⟩, .slice none 0 0, .slice none 0 0, .slice none 0 0] 28 (0, 0)) := by
    rw [← hW1]
    have h1 := allocY_new (w.alloc (.cells #[.int .i64 k, .string t, .slice a1 x.l.length c1, .slice a2 x.p.length c2, .slice a3 x.s.length c3] 28)) (.cells #[.int .i64 0, .string ⟨#[]⟩, .slice none 0 0, .slice none 0 0, .slice none 0 0] 28)
    rwa [World.size_alloc] at h1
  have q2 : W1.cell? ⟨w.heap.size, 2, none⟩ = some (.slice a1 x.l.length c1) := by simp [World.cell?, HH]
  have z1 : w.heap.size < W1.heap.size := (Array.getElem?_eq_some_iff.1 HH).1
  have z2 : w.heap.size + 1 < W1.heap.size := (Array.getElem?_eq_some_iff.1 HR).1
  go_enter Tryz.func53, Tryz.ntmps53
  go_wp2_with fail
  refine (H1.out W1 HB).mono ?_
  rintro e V1 ⟨u1, rfl, ho1, hb1⟩
  obtain ⟨b1, d1, rfl⟩ := slice_ownY ho1
  have G1 := (hb1.block _ z1).trans HH
  have R1 := (hb1.block _ z2).trans HR
  have y1 : w.heap.size < V1.heap.size := (Array.getElem?_eq_some_iff.1 G1).1
  have yy1 : w.heap.size + 1 < V1.heap.size := (Array.getElem?_eq_some_iff.1 R1).1
  have B1 : Below w.heap.size w V1 := HB.trans (hb1.mono HB.size)
  have cc : V1.cell? ⟨w.heap.size, 2, none⟩ = some (.slice a1 x.l.length c1) := by simp [World.cell?, G1]
  have ff : V1.frozen? ⟨w.heap.size, 2, none⟩ = false := by simp [World.frozen?, G1]
  have K1 : Kept (one w.heap.size) V1 (V1.setCell ⟨w.heap.size, 2, none⟩ (.slice b1 x.l.length d1)) := (Kept.refl (one w.heap.size) V1).set1 2 _
  have P1 : (V1.setCell ⟨w.heap.size, 2, none⟩ (.slice b1 x.l.length d1)).heap[w.heap.size]? = some (.cells #[.int .i64 k, .string t, .slice b1 x.l.length d1, .slice a2 x.p.length c2, .slice a3 x.s.length c3] 28 (0, 0)) := by rw [setCell_heapY G1]; rfl
  have Q1 : (V1.setCell ⟨w.heap.size, 2, none⟩ (.slice b1 x.l.length d1)).heap[w.heap.size + 1]? = some (.cells #[.int .i64 0, .string ⟨#[]⟩, .slice none 0 0, .slice none 0 0, .slice none 0 0] 28 (0, 0)) := (K1.block _ yy1 (by simp [one])).trans R1
  have CB1 : Below w.heap.size w (V1.setCell ⟨w.heap.size, 2, none⟩ (.slice b1 x.l.length d1)) := B1.setCell (p := ⟨w.heap.size, 2, none⟩) (Nat.le_refl _) _
  have kz1 : W1.heap.size ≤ V1.heap.size := hb1.size
  have o1 : (V1.setCell ⟨w.heap.size, 2, none⟩ (.slice b1 x.l.length d1)).ownsRow W1.heap.size 9 1 (.slice b1 x.l.length d1) x.l.length (YT.strs x.l) := K1.owns ho1 (fun j hj e => by have := (ho1.lt j hj).1; simp only [one] at e; omega)
  obtain ⟨W2, hW2⟩ : ∃ W', V1.setCell ⟨w.heap.size, 2, none⟩ (.slice b1 x.l.length d1) = W' := ⟨_, rfl⟩
  rw [hW2] at K1 P1 Q1 CB1 o1
  have z11 : w.heap.size < W2.heap.size := (Array.getElem?_eq_some_iff.1 P1).1
  have z21 : w.heap.size + 1 < W2.heap.size := (Array.getElem?_eq_some_iff.1 Q1).1
  have q3 : W2.cell? ⟨w.heap.size, 3, none⟩ = some (.slice a2 x.p.length c2) := by simp [World.cell?, P1]
  go_wp2_with fail
  refine (H2.out W2 CB1).mono ?_
  rintro e V2 ⟨u2, rfl, ho2, hb2⟩
  obtain ⟨b2, d2, rfl⟩ := slice_ownY ho2
  have G2 := (hb2.block _ z11).trans P1
  have R2 := (hb2.block _ z21).trans Q1
  have y2 : w.heap.size < V2.heap.size := (Array.getElem?_eq_some_iff.1 G2).1
  have yy2 : w.heap.size + 1 < V2.heap.size := (Array.getElem?_eq_some_iff.1 R2).1
  have B2 : Below w.heap.size w V2 := CB1.trans (hb2.mono CB1.size)
  have cc : V2.cell? ⟨w.heap.size, 3, none⟩ = some (.slice a2 x.p.length c2) := by simp [World.cell?, G2]
  have ff : V2.frozen? ⟨w.heap.size, 3, none⟩ = false := by simp [World.frozen?, G2]
  have K2 : Kept (one w.heap.size) V2 (V2.setCell ⟨w.heap.size, 3, none⟩ (.slice b2 x.p.length d2)) := (Kept.refl (one w.heap.size) V2).set1 3 _
  have P2 : (V2.setCell ⟨w.heap.size, 3, none⟩ (.slice b2 x.p.length d2)).heap[w.heap.size]? = some (.cells #[.int .i64 k, .string t, .slice b1 x.l.length d1, .slice b2 x.p.length d2, .slice a3 x.s.length c3] 28 (0, 0)) := by rw [setCell_heapY G2]; rfl
  have Q2 : (V2.setCell ⟨w.heap.size, 3, none⟩ (.slice b2 x.p.length d2)).heap[w.heap.size + 1]? = some (.cells #[.int .i64 0, .string ⟨#[]⟩, .slice none 0 0, .slice none 0 0, .slice none 0 0] 28 (0, 0)) := (K2.block _ yy2 (by simp [one])).trans R2
  have CB2 : Below w.heap.size w (V2.setCell ⟨w.heap.size, 3, none⟩ (.slice b2 x.p.length d2)) := B2.setCell (p := ⟨w.heap.size, 3, none⟩) (Nat.le_refl _) _
  have kz2 : W2.heap.size ≤ V2.heap.size := hb2.size
  have o2 : (V2.setCell ⟨w.heap.size, 3, none⟩ (.slice b2 x.p.length d2)).ownsRow W2.heap.size 87 2 (.slice b2 x.p.length d2) x.p.length (YP.rowP x.p) := K2.owns ho2 (fun j hj e => by have := (ho2.lt j hj).1; simp only [one] at e; omega)
  have o1 := (K2.owns (row_belowY o1 hb2) (fun j hj e => by have := (o1.lt j hj).1; simp only [one] at e; omega))
  obtain ⟨W3, hW3⟩ : ∃ W', V2.setCell ⟨w.heap.size, 3, none⟩ (.slice b2 x.p.length d2) = W' := ⟨_, rfl⟩
  rw [hW3] at K2 P2 Q2 CB2 o1 o2
  have z12 : w.heap.size < W3.heap.size := (Array.getElem?_eq_some_iff.1 P2).1
  have z22 : w.heap.size + 1 < W3.heap.size := (Array.getElem?_eq_some_iff.1 Q2).1
  have q4 : W3.cell? ⟨w.heap.size, 4, none⟩ = some (.slice a3 x.s.length c3) := by simp [World.cell?, P2]
  go_wp2_with fail
  refine (H3.out W3 CB2).mono ?_
  rintro e V3 ⟨u3, rfl, ho3, hb3⟩
  obtain ⟨b3, d3, rfl⟩ := slice_ownY ho3
  have G3 := (hb3.block _ z12).trans P2
  have R3 := (hb3.block _ z22).trans Q2
  have y3 : w.heap.size < V3.heap.size := (Array.getElem?_eq_some_iff.1 G3).1
  have yy3 : w.heap.size + 1 < V3.heap.size := (Array.getElem?_eq_some_iff.1 R3).1
  have B3 : Below w.heap.size w V3 := CB2.trans (hb3.mono CB2.size)
  have cc : V3.cell? ⟨w.heap.size, 4, none⟩ = some (.slice a3 x.s.length c3) := by simp [World.cell?, G3]
  have ff : V3.frozen? ⟨w.heap.size, 4, none⟩ = false := by simp [World.frozen?, G3]
  have K3 : Kept (one w.heap.size) V3 (V3.setCell ⟨w.heap.size, 4, none⟩ (.slice b3 x.s.length d3)) := (Kept.refl (one w.heap.size) V3).set1 4 _
  have P3 : (V3.setCell ⟨w.heap.size, 4, none⟩ (.slice b3 x.s.length d3)).heap[w.heap.size]? = some (.cells #[.int .i64 k, .string t, .slice b1 x.l.length d1, .slice b2 x.p.length d2, .slice b3 x.s.length d3] 28 (0, 0)) := by rw [setCell_heapY G3]; rfl
  have Q3 : (V3.setCell ⟨w.heap.size, 4, none⟩ (.slice b3 x.s.length d3)).heap[w.heap.size + 1]? = some (.cells #[.int .i64 0, .string ⟨#[]⟩, .slice none 0 0, .slice none 0 0, .slice none 0 0] 28 (0, 0)) := (K3.block _ yy3 (by simp [one])).trans R3
  have CB3 : Below w.heap.size w (V3.setCell ⟨w.heap.size, 4, none⟩ (.slice b3 x.s.length d3)) := B3.setCell (p := ⟨w.heap.size, 4, none⟩) (Nat.le_refl _) _
  have kz3 : W3.heap.size ≤ V3.heap.size := hb3.size
  have o3 : (V3.setCell ⟨w.heap.size, 4, none⟩ (.slice b3 x.s.length d3)).ownsRow W3.heap.size 89 2 (.slice b3 x.s.length d3) x.s.length (YS.rowP x.s) := K3.owns ho3 (fun j hj e => by have := (ho3.lt j hj).1; simp only [one] at e; omega)
  have o1 := (K3.owns (row_belowY o1 hb3) (fun j hj e => by have := (o1.lt j hj).1; simp only [one] at e; omega))
  have o2 := (K3.owns (row_belowY o2 hb3) (fun j hj e => by have := (o2.lt j hj).1; simp only [one] at e; omega))
  obtain ⟨W4, hW4⟩ : ∃ W', V3.setCell ⟨w.heap.size, 4, none⟩ (.slice b3 x.s.length d3) = W' := ⟨_, rfl⟩
  rw [hW4] at K3 P3 Q3 CB3 o1 o2 o3
  have z13 : w.heap.size < W4.heap.size := (Array.getElem?_eq_some_iff.1 P3).1
  have z23 : w.heap.size + 1 < W4.heap.size := (Array.getElem?_eq_some_iff.1 Q3).1
  have r0 : W4.cell? ⟨w.heap.size, 0, none⟩ = some (.int .i64 k) := by simp [World.cell?, P3]
  have r1 : W4.cell? ⟨w.heap.size, 1, none⟩ = some (.string t) := by simp [World.cell?, P3]
  have r2 : W4.cell? ⟨w.heap.size, 2, none⟩ = some (.slice b1 x.l.length d1) := by simp [World.cell?, P3]
  have r3 : W4.cell? ⟨w.heap.size, 3, none⟩ = some (.slice b2 x.p.length d2) := by simp [World.cell?, P3]
  have r4 : W4.cell? ⟨w.heap.size, 4, none⟩ = some (.slice b3 x.s.length d3) := by simp [World.cell?, P3]
  have s0 : W4.cell? ⟨w.heap.size + 1, 0, none⟩ = some (.int .i64 0) := by simp [World.cell?, Q3]
  have s1 : W4.cell? ⟨w.heap.size + 1, 1, none⟩ = some (.string ⟨#[]⟩) := by simp [World.cell?, Q3]
  have s2 : W4.cell? ⟨w.heap.size + 1, 2, none⟩ = some (.slice none 0 0) := by simp [World.cell?, Q3]
  have s3 : W4.cell? ⟨w.heap.size + 1, 3, none⟩ = some (.slice none 0 0) := by simp [World.cell?, Q3]
  have s4 : W4.cell? ⟨w.heap.size + 1, 4, none⟩ = some (.slice none 0 0) := by simp [World.cell?, Q3]
  have f0 : W4.frozen? ⟨w.heap.size + 1, 0, none⟩ = false := by simp [World.frozen?, Q3]
  have f1 : W4.frozen? ⟨w.heap.size + 1, 1, none⟩ = false := by simp [World.frozen?, Q3]
  have f2 : W4.frozen? ⟨w.heap.size + 1, 2, none⟩ = false := by simp [World.frozen?, Q3]
  have f3 : W4.frozen? ⟨w.heap.size + 1, 3, none⟩ = false := by simp [World.frozen?, Q3]
  have f4 : W4.frozen? ⟨w.heap.size + 1, 4, none⟩ = false := by simp [World.frozen?, Q3]
  go_wp2_with fail
  have hH : (((((W4.setCell ⟨w.heap.size + 1, 0, none⟩ (.int .i64 k)).setCell ⟨w.heap.size + 1, 1, none⟩ (.string t)).setCell ⟨w.heap.size + 1, 2, none⟩ (.slice b1 x.l.length d1)).setCell ⟨w.heap.size + 1, 3, none⟩ (.slice b2 x.p.length d2)).setCell ⟨w.heap.size + 1, 4, none⟩ (.slice b3 x.s.length d3)).heap[w.heap.size + 1]? = some (.cells #[.int .i64 k, .string t, .slice b1 x.l.length d1, .slice b2 x.p.length d2, .slice b3 x.s.length d3] 28 (0, 0)) := by
    rw [setCell_heapY (setCell_heapY (setCell_heapY (setCell_heapY (setCell_heapY Q3 0 _) 1 _) 2 _) 3 _) 4 _]; rfl
  have hK : Kept (one (w.heap.size + 1)) W4 (((((W4.setCell ⟨w.heap.size + 1, 0, none⟩ (.int .i64 k)).setCell ⟨w.heap.size + 1, 1, none⟩ (.string t)).setCell ⟨w.heap.size + 1, 2, none⟩ (.slice b1 x.l.length d1)).setCell ⟨w.heap.size + 1, 3, none⟩ (.slice b2 x.p.length d2)).setCell ⟨w.heap.size + 1, 4, none⟩ (.slice b3 x.s.length d3)) := (((((Kept.refl (one (w.heap.size + 1)) W4).set1 0 _).set1 1 _).set1 2 _).set1 3 _).set1 4 _
  have hB : Below w.heap.size w (((((W4.setCell ⟨w.heap.size + 1, 0, none⟩ (.int .i64 k)).setCell ⟨w.heap.size + 1, 1, none⟩ (.string t)).setCell ⟨w.heap.size + 1, 2, none⟩ (.slice b1 x.l.length d1)).setCell ⟨w.heap.size + 1, 3, none⟩ (.slice b2 x.p.length d2)).setCell ⟨w.heap.size + 1, 4, none⟩ (.slice b3 x.s.length d3)) := ((((CB3.setCell (p := ⟨w.heap.size + 1, 0, none⟩) (Nat.le_succ _) _).setCell (p := ⟨w.heap.size + 1, 1, none⟩) (Nat.le_succ _) _).setCell (p := ⟨w.heap.size + 1, 2, none⟩) (Nat.le_succ _) _).setCell (p := ⟨w.heap.size + 1, 3, none⟩) (Nat.le_succ _) _).setCell (p := ⟨w.heap.size + 1, 4, none⟩) (Nat.le_succ _) _
  obtain ⟨W5, hW5⟩ : ∃ W5, ((((W4.setCell ⟨w.heap.size + 1, 0, none⟩ (.int .i64 k)).setCell ⟨w.heap.size + 1, 1, none⟩ (.string t)).setCell ⟨w.heap.size + 1, 2, none⟩ (.slice b1 x.l.length d1)).setCell ⟨w.heap.size + 1, 3, none⟩ (.slice b2 x.p.length d2)).setCell ⟨w.heap.size + 1, 4, none⟩ (.slice b3 x.s.length d3) = W5 := ⟨_, rfl⟩
  rw [hW5] at hH hK hB ⊢
  clear hW5
  have p0 : W5.cell? ⟨w.heap.size + 1, 0, none⟩ = some (.int .i64 k) := by simp [World.cell?, hH]
  have p1 : W5.cell? ⟨w.heap.size + 1, 1, none⟩ = some (.string t) := by simp [World.cell?, hH]
  have p2 : W5.cell? ⟨w.heap.size + 1, 2, none⟩ = some (.slice b1 x.l.length d1) := by simp [World.cell?, hH]
  have p3 : W5.cell? ⟨w.heap.size + 1, 3, none⟩ = some (.slice b2 x.p.length d2) := by simp [World.cell?, hH]
  have p4 : W5.cell? ⟨w.heap.size + 1, 4, none⟩ = some (.slice b3 x.s.length d3) := by simp [World.cell?, hH]
  have y4 : w.heap.size + 1 < W1.heap.size := z2
  refine bodyPost_ret (v := .agg #[.int .i64 k, .string t, .slice b1 x.l.length d1, .slice b2 x.p.length d2, .slice b3 x.s.length d3]) (by simp [results, Tryz.results53, go_sem, p0, p1, p2, p3, p4]) rfl ⟨_, rfl, ⟨b1, d1, b2, d2, b3, d3, by rw [HKT.out.1, HKT.out.2], ?_, ?_, ?_⟩, hB⟩
  · exact row_lowY (hK.owns o1 (fun j hj e => by have := (o1.lt j hj).1; simp only [one] at e; omega)) (by omega)
  · exact row_lowY (hK.owns o2 (fun j hj e => by have := (o2.lt j hj).1; simp only [one] at e; omega)) (by omega)
  · exact row_lowY (hK.owns o3 (fun j hj e => by have := (o3.lt j hj).1; simp only [one] at e; omega)) (by omega)
end Go.Proofs.YtcidoodaiimhfaaGreat

/- WALKS of spaces: what is wrong with an entry, a space, a time, a key; what is gone. -/
namespace Go.Proofs.YtcidoodaiimhfaaGreat
open Go.RowKit

theorem longY_below (t : ByteArray) (w : World) : Calls Tryz.prog 87 #[.string t] w fun e w' => e = .returned (.bool (longT t)) ∧ w' = w := by
  have h : decide ((60 : Int) < ((t.size : Nat) : Int)) = longT t := by unfold longT; simp; omega
  go_enter Tryz.func87, Tryz.ntmps87
  go_wp2_with fail
  go_ret
  exact ⟨by rw [← h]; rfl, rfl⟩
theorem timeY_any (n : Int) (w : World) : Calls Tryz.prog 135 #[.int .i64 n] w fun e w' => e = .returned (.bool (timeT n)) ∧ w' = w := by
  by_cases h1 : 0 ≤ n
  · have hv : timeT n = decide (n ≤ 1000000) := by simp [timeT, h1]
    rw [hv]
    clear hv
    go_enter Tryz.func135, Tryz.ntmps135
    go_wp2_with fail
    go_ret
    exact ⟨rfl, rfl⟩
  · have hv : timeT n = false := by simp [timeT, h1]
    rw [hv]
    clear hv
    go_enter Tryz.func135, Tryz.ntmps135
    go_wp2_with fail
    go_ret
    exact ⟨rfl, rfl⟩
set_option maxRecDepth 100000 in
theorem isGone_any (v : Value) (x : Ent) (now : Int) (w : World) (h : EntIs w v x) : Calls Tryz.prog 62 #[v, .int .i64 now] w fun e w' => e = .returned (.bool (goneE x now)) ∧ Below w.heap.size w w' := by
  obtain ⟨a1, c1, a2, c2, a3, c3, rfl, -⟩ := h
  by_cases h0 : x.til = 0
  · have hv : goneE x now = false := by simp [goneE, h0]
    rw [hv, h0]
    clear hv h0
    go_enter Tryz.func62, Tryz.ntmps62
    go_wp2_with fail
    go_ret
    exact ⟨rfl, (Below.refl _ w).alloc (Nat.le_refl _) _⟩
  · have hv : goneE x now = decide (x.til ≤ now) := by simp [goneE, h0]
    rw [hv]
    clear hv
    generalize x.til = T at *
    go_enter Tryz.func62, Tryz.ntmps62
    go_wp2_with fail
    go_ret
    refine ⟨?_, (Below.refl _ w).alloc (Nat.le_refl _) _⟩
    simp [h0]
set_option maxRecDepth 100000 in
set_option maxHeartbeats 2000000 in
theorem checkEntry_any (v : Value) (x : Ent) (w : World) (h : EntIs w v x) : Calls Tryz.prog 73 #[v] w fun e w' => e = .returned (.int .i64 (chkE x)) ∧ Below w.heap.size w w' := by
  obtain ⟨a1, c1, a2, c2, a3, c3, rfl, hi⟩ := h
  have HO : Hid (∀ W, Calls Tryz.prog 87 #[.string x.key] W fun e w' => e = .returned (.bool (longT x.key)) ∧ w' = W) := fun W => longY_below _ W
  have HI : Hid (∀ W, Below w.heap.size w W → Calls Tryz.prog 75 #[.agg #[.int .i64 x.item.k, .string x.item.t, .slice a1 x.item.l.length c1, .slice a2 x.item.p.length c2, .slice a3 x.item.s.length c3]] W fun e w' => e = .returned (.int .i64 (chkI x.item)) ∧ Below W.heap.size W w') := fun W hW => check_any _ x.item W (hi.below hW)
  have HT : Hid (∀ W, Calls Tryz.prog 135 #[.int .i64 x.til] W fun e w' => e = .returned (.bool (timeT x.til)) ∧ w' = W) := fun W => timeY_any _ W
  clear hi
  unfold chkE
  generalize chkI x.item = CI at *
  generalize timeT x.til = TT at *
  generalize longT x.key = LT at *
  generalize x.key = K at *
  generalize x.til = T at *
  generalize x.item.k = k at *
  generalize x.item.t = t at *
  generalize x.item.l.length = n1 at *
  generalize x.item.p.length = n2 at *
  generalize x.item.s.length = n3 at *
  cases LT with
  | true =>
    rw [if_pos rfl]
    go_enter Tryz.func73, Tryz.ntmps73
    go_wp2_with fail
    refine (HO.out _).mono ?_
    rintro e w1 ⟨rfl, rfl⟩
    go_wp2_with fail
    go_ret
    exact ⟨rfl, (Below.refl _ w).alloc (Nat.le_refl _) _⟩
  | false =>
    rw [if_neg (by decide)]
    have C0 : Below w.heap.size w (w.alloc (.cells #[.string K, .int .i64 k, .string t, .slice a1 n1 c1, .slice a2 n2 c2, .slice a3 n3 c3, .int .i64 T] 45)) := (Below.refl _ w).alloc (Nat.le_refl _) _
    by_cases hc : CI = 0
    · rw [if_neg (by simp [hc])]
      rw [hc] at HI
      clear hc
      cases TT with
      | true =>
        rw [if_pos rfl]
        go_enter Tryz.func73, Tryz.ntmps73
        go_wp2_with fail
        refine (HO.out _).mono ?_
        rintro e w1 ⟨rfl, rfl⟩
        go_wp2_with fail
        refine (HI.out _ C0).mono ?_
        rintro e w2 ⟨rfl, hb2⟩
        obtain ⟨hc, hf⟩ := bcell hb2
        have C2 := C0.trans (hb2.mono C0.size)
        have q6 : w2.cell? ⟨w.heap.size, 6, none⟩ = some (.int .i64 T) := (hc _ _ (by simp)).trans (by simp [go_sem])
        clear hc hf hb2
        go_wp2_with fail
        refine (HT.out _).mono ?_
        rintro e w3 ⟨rfl, rfl⟩
        go_wp2_with fail
        go_ret
        exact ⟨rfl, C2⟩
      | false =>
        rw [if_neg (by decide)]
        go_enter Tryz.func73, Tryz.ntmps73
        go_wp2_with fail
        refine (HO.out _).mono ?_
        rintro e w1 ⟨rfl, rfl⟩
        go_wp2_with fail
        refine (HI.out _ C0).mono ?_
        rintro e w2 ⟨rfl, hb2⟩
        obtain ⟨hc, hf⟩ := bcell hb2
        have C2 := C0.trans (hb2.mono C0.size)
        have q6 : w2.cell? ⟨w.heap.size, 6, none⟩ = some (.int .i64 T) := (hc _ _ (by simp)).trans (by simp [go_sem])
        clear hc hf hb2
        go_wp2_with fail
        refine (HT.out _).mono ?_
        rintro e w3 ⟨rfl, rfl⟩
        go_wp2_with fail
        go_ret
        exact ⟨rfl, C2⟩
    · rw [if_pos hc]
      have hc' : (CI == 0) = false := by rw [beq_eq_false_iff_ne]; exact hc
      clear hc
      go_enter Tryz.func73, Tryz.ntmps73
      go_wp2_with fail
      refine (HO.out _).mono ?_
      rintro e w1 ⟨rfl, rfl⟩
      go_wp2_with fail
      refine (HI.out _ C0).mono ?_
      rintro e w2 ⟨rfl, hb2⟩
      have C2 := C0.trans (hb2.mono C0.size)
      go_wp2_with fail
      go_ret
      exact ⟨rfl, C2⟩
end Go.Proofs.YtcidoodaiimhfaaGreat

/- A space as new memory. -/
namespace Go.Proofs.YtcidoodaiimhfaaGreat
open Go.RowKit

abbrev Sls := (Option Addr × Nat) × (Option Addr × Nat) × (Option Addr × Nat)
def itemV (x : Itm) (q : Sls) : Value := .agg #[.int .i64 x.k, .string x.t, .slice q.1.1 x.l.length q.1.2, .slice q.2.1.1 x.p.length q.2.1.2, .slice q.2.2.1 x.s.length q.2.2.2]
def cellsE (y : Ent × Sls) : List Value := [.string y.1.key, .int .i64 y.1.item.k, .string y.1.item.t, .slice y.2.1.1 y.1.item.l.length y.2.1.2, .slice y.2.2.1.1 y.1.item.p.length y.2.2.1.2, .slice y.2.2.2.1 y.1.item.s.length y.2.2.2.2, .int .i64 y.1.til]
def rowE (l : List (Ent × Sls)) : List Value := (l.map cellsE).flatten
theorem rowE_len (l : List (Ent × Sls)) : (rowE l).length = l.length * 7 := by
  induction l with
  | nil => rfl
  | cons p r ih => simp [rowE, cellsE] at ih ⊢; omega
theorem rowE_snoc (l : List (Ent × Sls)) (y : Ent × Sls) : rowE (l ++ [y]) = rowE l ++ cellsE y := by simp [rowE]
theorem infoEnt : (Tryz.prog.info? 45).map (fun i => (i.zero, i.size, i.bytes)) = some (some (.agg #[.string ⟨#[]⟩, .int .i64 0, .string ⟨#[]⟩, .slice none 0 0, .slice none 0 0, .slice none 0 0, .int .i64 0]), 7, 120) := by kernel_rfl
/-- entries that lie in memory of their own, from a block on, their lists too -/
structure OwnSp (B : Nat) (w : World) (V : Value) (l : List (Ent × Sls)) : Prop where
  row : w.ownsRow B 45 7 V l.length (rowE l)
  its : ∀ y ∈ l, OwnItem B w (itemV y.1.item y.2) y.1.item
theorem OwnItem.sls {B : Nat} {w : World} {v : Value} {x : Itm} (h : OwnItem B w v x) : ∃ q, v = itemV x q ∧ OwnItem B w (itemV x q) x := by
  obtain ⟨a1, c1, a2, c2, a3, c3, h0, h1⟩ := id h
  exact ⟨⟨⟨a1, c1⟩, ⟨a2, c2⟩, ⟨a3, c3⟩⟩, h0, ⟨a1, c1, a2, c2, a3, c3, rfl, h1⟩⟩
theorem OwnItem.below {B : Nat} {w w' : World} {v : Value} {x : Itm} (h : OwnItem B w v x) (hb : Below w.heap.size w w') : OwnItem B w' v x := by
  obtain ⟨a1, c1, a2, c2, a3, c3, h0, h1, h2, h3⟩ := h
  exact ⟨a1, c1, a2, c2, a3, c3, h0, row_belowY h1 hb, row_belowY h2 hb, row_belowY h3 hb⟩
theorem OwnItem.low {B B2 : Nat} {w : World} {v : Value} {x : Itm} (h : OwnItem B w v x) (hb : B2 ≤ B) : OwnItem B2 w v x := by
  obtain ⟨a1, c1, a2, c2, a3, c3, h0, h1, h2, h3⟩ := h
  exact ⟨a1, c1, a2, c2, a3, c3, h0, row_lowY h1 hb, row_lowY h2 hb, row_lowY h3 hb⟩
theorem OwnSp.below {B : Nat} {w w' : World} {V : Value} {l : List (Ent × Sls)} (h : OwnSp B w V l) (hb : Below w.heap.size w w') : OwnSp B w' V l :=
  ⟨row_belowY h.row hb, fun y hy => (h.its y hy).below hb⟩
/-- what the lists of an item may hold, for a copy -/
def Fits (x : Itm) : Prop := x.l.length ≤ 1000000 ∧ x.p.length ≤ 1000000 ∧ x.s.length ≤ 1000000
end Go.Proofs.YtcidoodaiimhfaaGreat

