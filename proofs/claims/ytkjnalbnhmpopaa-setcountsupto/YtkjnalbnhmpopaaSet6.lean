/- Many sets as plain data; how often each member is met; items that lie side by side. -/
import Derived.Test.YtkjnalbnhmpopaaSet5
import Derived.Maps.Own
import Derived.Maps.OwnOps
import Derived.Maps.Views
import Derived.StringKeys
import Derived.Maps.OwnSet
import Derived.Maps.RangeWalk
import Derived.Sort.KeysCollected
import Derived.Handy
namespace Go.Proofs.Ytkjnalbnhmpopaa
open Go.RowKit Go.Maps Go.WideMaps

/-- how many of the lists have it -/
def cntL (ls : List (List ByteArray)) (s : ByteArray) : Nat := (ls.filter fun l => hasT l s).length
theorem bytesL_append (l m : List ByteArray) : bytesL (l ++ m) = bytesL l ++ bytesL m := by simp [bytesL]
theorem count_bytes (l : List ByteArray) (s : ByteArray) (h : l.Nodup) : (bytesL l).count s.data.toList = if hasT l s = true then 1 else 0 := by
  induction l with
  | nil => rfl
  | cons a r ih =>
    have hn := List.nodup_cons.1 h
    have e : bytesL (a :: r) = a.data.toList :: bytesL r := rfl
    rw [e, List.count_cons, ih hn.2]
    by_cases hs : a = s
    · subst hs
      have h1 : hasT r a = false := hasT_not hn.1
      have h2 : hasT (a :: r) a = true := hasT_iff.2 (by simp)
      simp [h1, h2]
    · have hs' : ¬ a.data.toList = s.data.toList := fun e => hs (bytes_eq e)
      have h3 : hasT (a :: r) s = hasT r s := by
        rw [Bool.eq_iff_iff, hasT_iff, hasT_iff, List.mem_cons]
        exact ⟨fun h => by rcases h with h | h; exact absurd h.symm hs; exact h, .inr⟩
      have h4 : (a.data.toList == s.data.toList) = false := by rw [beq_eq_false_iff_ne]; exact hs'
      rw [h3, h4]
      rfl
theorem count_flat (ls : List (List ByteArray)) (s : ByteArray) (h : ∀ l ∈ ls, Rises l) : (bytesL ls.flatten).count s.data.toList = cntL ls s := by
  induction ls with
  | nil => rfl
  | cons l r ih =>
    rw [List.flatten_cons, bytesL_append, List.count_append, ih (fun m hm => h m (by simp [hm])), count_bytes l s (h l (by simp)).nodup, cntL, cntL, List.filter_cons]
    split
    · simp only [List.length_cons]
      omega
    · omega
/-- the members that are asked for, rising -/
def thoseL (p : ByteArray → Nat → Bool) (ls : List (List ByteArray)) : List ByteArray := addT [] (ls.flatten.filter fun s => p s (cntL ls s))
theorem thoseL_rises (p : ByteArray → Nat → Bool) (ls : List (List ByteArray)) : Rises (thoseL p ls) := rises_addT List.Pairwise.nil
theorem mem_thoseL {p : ByteArray → Nat → Bool} {ls : List (List ByteArray)} {s : ByteArray} : s ∈ thoseL p ls ↔ (∃ l ∈ ls, s ∈ l) ∧ p s (cntL ls s) = true := by
  unfold thoseL
  rw [mem_addT, List.mem_filter, List.mem_flatten]
  simp
/-- the error of items, one by one -/
def setsE : List Itm → Int
  | [] => 0
  | x :: r => if asI x 3 ≠ 0 then asI x 3 else setsE r
def setsF (xs : List Itm) : Int := if xs = [] then 1 else setsE xs
theorem setsE_all {xs : List Itm} (h : ∀ x ∈ xs, asI x 3 = 0) : setsE xs = 0 := by
  induction xs with
  | nil => rfl
  | cons x r ih => rw [setsE, if_neg (by simp [h x (by simp)])]; exact ih (fun y hy => h y (by simp [hy]))
theorem setsE_at {xs : List Itm} {k : Nat} (hk : k < xs.length) (h : ∀ x ∈ xs.take k, asI x 3 = 0) (he : asI xs[k] 3 ≠ 0) : setsE xs = asI xs[k] 3 := by
  induction xs generalizing k with
  | nil => simp at hk
  | cons x r ih =>
    cases k with
    | zero => rw [setsE]; exact if_pos he
    | succ k =>
      rw [setsE, if_neg (by simp [h x (by simp)])]
      exact ih (by simpa using hk) (fun y hy => h y (by simp [hy])) he
/-- what the map holds: of each member how often it was met -/
structure Counts (D : DataW Unit) (ms : List ByteArray) : Prop where
  at_ : ∀ x : List UInt8, D.atKey (.string x) (.lit (.int .i64 0)) = .lit (.int .i64 (((bytesL ms).count x : Nat) : Int))
  has_ : ∀ x : List UInt8, Maps.has D (.string x) = true ↔ x ∈ bytesL ms
theorem Counts.start : Counts (.map []) [] := ⟨fun _ => rfl, fun x => by simp [Maps.has, bytesL]⟩
theorem Counts.step {D : DataW Unit} {ms : List ByteArray} (h : Counts D ms) (hm : IsMap D) (s : ByteArray) : Counts (D.put (.string s.data.toList) (.lit (.int .i64 (((bytesL ms).count s.data.toList : Nat) + 1 : Int)))) (ms ++ [s]) := by
  have e : bytesL (ms ++ [s]) = bytesL ms ++ [s.data.toList] := by simp [bytesL]
  refine ⟨fun x => ?_, fun x => ?_⟩
  · rw [e, List.count_append]
    by_cases hx : x = s.data.toList
    · subst hx
      rw [atKey_put_same hm (k := .string _) (by trivial)]
      simp
    · rw [atKey_put_other (by intro e; injection e with e; exact hx e), h.at_]
      have : [s.data.toList].count x = 0 := List.count_eq_zero.2 (by simpa using hx)
      rw [this]
      simp
  · rw [e, List.mem_append]
    by_cases hx : x = s.data.toList
    · subst hx
      rw [has_put_same hm (k := .string _) (by trivial)]
      simp
    · rw [has_put_other (by intro e; injection e with e; exact hx e), h.has_]
      simp [hx]
/-- items that lie side by side -/
def ItemsAt (w : World) (a : Option Addr) (xs : List Itm) : Prop :=
  xs = [] ∨ ∃ g o, a = some ⟨g, o, none⟩ ∧ ∀ i (h : i < xs.length), ∃ a1 c1 a2 c2 a3 c3, (w.cell? ⟨g, o + i * 5, none⟩ = some (.int .i64 xs[i].k) ∧ w.cell? ⟨g, o + i * 5 + 1, none⟩ = some (.string xs[i].t) ∧ w.cell? ⟨g, o + i * 5 + 2, none⟩ = some (.slice a1 xs[i].l.length c1) ∧ w.cell? ⟨g, o + i * 5 + 3, none⟩ = some (.slice a2 xs[i].p.length c2) ∧ w.cell? ⟨g, o + i * 5 + 4, none⟩ = some (.slice a3 xs[i].s.length c3)) ∧ ItemIs w (.agg #[.int .i64 xs[i].k, .string xs[i].t, .slice a1 xs[i].l.length c1, .slice a2 xs[i].p.length c2, .slice a3 xs[i].s.length c3]) xs[i]
theorem ItemsAt.below {w w' : World} {a : Option Addr} {xs : List Itm} (h : ItemsAt w a xs) (hb : Below w.heap.size w w') : ItemsAt w' a xs := by
  have hm : ∀ g o v, w.cell? ⟨g, o, none⟩ = some v → w'.cell? ⟨g, o, none⟩ = some v := fun g o v hv => (hb.cell (p := ⟨g, o, none⟩) (World.block_lt_of_cell? _ _ hv)).trans hv
  rcases h with h | ⟨g, o, ha, hc⟩
  · exact .inl h
  · refine .inr ⟨g, o, ha, fun i hi => ?_⟩
    obtain ⟨a1, c1, a2, c2, a3, c3, ⟨h0, h1, h2, h3, h4⟩, h5⟩ := hc i hi
    exact ⟨a1, c1, a2, c2, a3, c3, ⟨hm _ _ _ h0, hm _ _ _ h1, hm _ _ _ h2, hm _ _ _ h3, hm _ _ _ h4⟩, h5.below hb⟩
theorem lawS : Keyed Try.prog 9 := string_keyed Try.underlying9
theorem zeroI (w : World) : (zeroValue 3).run Try.prog w = .ok (.int .i64 0) w := by kernel_rfl
theorem keyS {s : ByteArray} (h : s.size ≤ maxLen) : keyOf Try.prog 9 (.string s) = some (.string s.data.toList) := keyOf_string_mk Try.underlying9 h
/-- of what was met, what is asked for -/
def askL (p : ByteArray → Nat → Bool) (ls : List (List ByteArray)) (ss : List (List UInt8)) : List ByteArray := (textsL ss).filter fun s => p s (cntL ls s)
theorem askL_len (p : ByteArray → Nat → Bool) (ls : List (List ByteArray)) (ss : List (List UInt8)) : (askL p ls ss).length ≤ ss.length := by
  have := List.length_filter_le (fun s => p s (cntL ls s)) (textsL ss)
  simpa [askL, textsL] using this
theorem askL_yes {p : ByteArray → Nat → Bool} {ls : List (List ByteArray)} {ss : List (List UInt8)} {s : ByteArray} {x : List UInt8} (hx : s = ⟨x.toArray⟩) (h : p s (cntL ls s) = true) : askL p ls (ss ++ [x]) = askL p ls ss ++ [s] := by
  subst hx
  simp [askL, textsL, h]
theorem askL_no {p : ByteArray → Nat → Bool} {ls : List (List ByteArray)} {ss : List (List UInt8)} {s : ByteArray} {x : List UInt8} (hx : s = ⟨x.toArray⟩) (h : p s (cntL ls s) = false) : askL p ls (ss ++ [x]) = askL p ls ss := by
  subst hx
  simp [askL, textsL, h]
theorem askL_end {p : ByteArray → Nat → Bool} {ls : List (List ByteArray)} {ss : List (List UInt8)} (hn : ss.Nodup) (hm : ∀ x, x ∈ ss ↔ x ∈ bytesL ls.flatten) : sortL (askL p ls ss) = thoseL p ls := by
  have hnd : (askL p ls ss).Nodup := by
    refine List.Pairwise.filter _ ?_
    unfold textsL
    rw [List.pairwise_map]
    exact hn.imp (fun h e => h (by injection e with e; exact List.toArray_inj e))
  obtain ⟨h1, h2⟩ := sorted_once hnd
  refine rises_unique h1 (thoseL_rises p ls) (fun x => ?_)
  rw [sortL, h2, askL, List.mem_filter, mem_textsL, hm, mem_bytesL, mem_thoseL]
  have e : (⟨x.data.toList.toArray⟩ : ByteArray) = x := by cases x; simp
  rw [e, List.mem_flatten]
/-- a range over the map is under way -/
structure RngAt (p : ByteArray → Nat → Bool) (ls : List (List ByteArray)) (w : World) (r N : Nat) (D : DataW Unit) (left : Lit → Bool) (cnt : Nat) (ss : List (List UInt8)) (v : Value) (wr : World) : Prop where
  rg : wr.ranges Try.prog 9 (plainElem Try.prog 3) w.heap.size r N D left cnt
  ct : ss.length + cnt ≤ Maps.size D
  rw : wr.ownsRow r 9 1 v (askL p ls ss).length (strs (askL p ls ss))
  cl : Collected D left ss
  bl : Below w.heap.size w wr
theorem grown_none {w w' : World} (h : Below w.heap.size w w') : w.grownBy w' none := ⟨h.os, h.tape, h.output, h.size, fun j hj _ => h.block j hj⟩
/-- so many items have been looked at -/
structure ThoseAt (xs : List Itm) (w : World) (k : Nat) (D : DataW Unit) (wr : World) : Prop where
  g : ∀ x ∈ xs.take k, asI x 3 = 0
  d : Counts D ((xs.take k).map Itm.l).flatten
  o : wr.ownsMap Try.prog 9 (plainElem Try.prog 3) w.heap.size ((xs.take k).map Itm.l).flatten.length D
  b : Below w.heap.size w wr
end Go.Proofs.Ytkjnalbnhmpopaa
