/- WALK of sets: without these. -/
import Derived.Test.YtkjnalbnhmpopaaSPl
import Derived.Test.YtkjnalbnhmpopaaComC
import Derived.Test.YtkjnalbnhmpopaaBoxes
import Derived.Test.YtkjnalbnhmpopaaShelfS
import Derived.Lib.SlicesS
import Derived.Handy
import Derived.Test.YtkjnalbnhmpopaaRLst3
import Derived.Test.YtkjnalbnhmpopaaLst3
import Derived.Test.YtkjnalbnhmpopaaShelfD
import Derived.Sort.OwnSorted
namespace Go.Proofs.Ytkjnalbnhmpopaa
open Go.RowKit

theorem contains_any (a : Option Addr) (cap : Nat) (ts : List ByteArray) (s : ByteArray) (w : World) (hs : TextsAt w a ts) (hn : ts.length ≤ 281474976710656) :
    Calls Try.prog 62 #[.slice a ts.length cap, .string s] w fun e w' => e = .returned (.bool (hasT ts s)) ∧ w' = w := by
  rcases hs with rfl | ⟨g, o, rfl, hc⟩
  · exact Try.slices_Contains_string_empty a cap s w
  · have hh := Try.slices_Contains_string g o ts.length cap ts s w (Nat.le_refl _) (by omega) (fun j hj => by rw [hc j hj]; simp [hj])
    rw [List.take_length, show Lib.containsS ts s = hasT ts s from Bool.eq_iff_iff.2 (Iff.trans (Lib.containsS_iff _ _) hasT_iff.symm)] at hh
    exact hh
set_option maxRecDepth 100000 in
theorem setOf_any (a : Option Addr) (n cap : Nat) (w : World) (hn : n ≤ 281474976710656) :
    Calls Try.prog 58 #[.slice a n cap] w fun e w' => e = .returned (if n = 0 then .agg #[.int .i64 0, .string ⟨#[]⟩, .slice none 0 0, .slice none 0 0, .slice none 0 0] else .agg #[.int .i64 3, .string ⟨#[]⟩, .slice a n cap, .slice none 0 0, .slice none 0 0]) ∧ Below w.heap.size w w' := by
  by_cases h0 : n = 0
  · subst h0
    go_enter Try.func58, Try.ntmps58
    go_wp2_with fail
    refine bodyPost_ret (v := .agg #[.int .i64 0, .string ⟨#[]⟩, .slice none 0 0, .slice none 0 0, .slice none 0 0]) (by simp [results, Try.results58, go_sem]) rfl ⟨rfl, ?_⟩
    go_grown
  · have h0' : ¬ ((n : Nat) : Int) = 0 := by omega
    rw [if_neg h0]
    go_enter Try.func58, Try.ntmps58
    go_wp2_with fail
    refine bodyPost_ret (v := .agg #[.int .i64 3, .string ⟨#[]⟩, .slice a n cap, .slice none 0 0, .slice none 0 0]) (by simp [results, Try.results58, go_sem]) rfl ⟨rfl, ?_⟩
    go_grown
/-- is it one? -/
def hasE (x : Itm) (s : ByteArray) : Bool := if asI x 3 = 0 then hasT x.l s else false
set_option maxRecDepth 100000 in
set_option maxHeartbeats 1000000 in
theorem has_any (v : Value) (x : Itm) (s : ByteArray) (w : World) (h : ItemIs w v x) :
    Calls Try.prog 27 #[v, .string s] w fun e w' => e = .returned (.tuple #[.bool (hasE x s), .int .i64 (asI x 3)]) ∧ Below w.heap.size w w' := by
  have HI := hide h
  obtain ⟨⟨a1, c1, a2, c2, a3, c3, rfl, hx1, -, -⟩, -, -, -, -, hl1, -, -⟩ := h
  have HC : Hid (∀ W, Below w.heap.size w W → Calls Try.prog 39 #[.agg #[.int .i64 x.k, .string x.t, .slice a1 x.l.length c1, .slice a2 x.p.length c2, .slice a3 x.s.length c3], .int .i64 3] W fun e w' => e = .returned (.int .i64 (asI x 3)) ∧ Below W.heap.size W w') := fun W hW => common_any _ x 3 W (HI.out.below hW)
  have HX := hide hx1
  have HN : Hid (∀ W, Below w.heap.size w W → Calls Try.prog 62 #[.slice a1 x.l.length c1, .string s] W fun e w' => e = .returned (.bool (hasT x.l s)) ∧ Below W.heap.size W w') := fun W hW => (contains_any a1 c1 x.l s W (HX.out.below hW) hl1).mono fun _ _ ⟨h1, h2⟩ => ⟨h1, by rw [h2]; exact Below.refl _ _⟩
  clear HI hx1 HX hl1
  by_cases h0 : asI x 3 = 0
  · rw [hasE, if_pos h0, h0]
    rw [h0] at HC
    clear h0
    generalize hasT x.l s = R at *
    generalize x.k = k at *
    generalize x.t = t at *
    generalize x.l.length = n1 at *
    generalize x.p.length = n2 at *
    generalize x.s.length = n3 at *
    go_enter Try.func27, Try.ntmps27
    go_wp2_with fail
    have C_0 : Below w.heap.size w (w.alloc (.cells #[.int .i64 k, .string t, .slice a1 n1 c1, .slice a2 n2 c2, .slice a3 n3 c3] 32)) := (Below.refl _ w).alloc (Nat.le_refl _) _
    have X_1 := hide (BoxAt.new w (.int .i64 k) (.string t) (.slice a1 n1 c1) (.slice a2 n2 c2) (.slice a3 n3 c3) 32)
    refine (HC.out _ C_0).mono ?_
    rintro e w1 ⟨rfl, hb1⟩
    have C_2 : Below w.heap.size w w1 := C_0.trans (hb1.mono C_0.size)
    clear C_0
    have X_3 := hide (X_1.out.below hb1)
    clear X_1
    clear hb1
    obtain ⟨xc0, xc1, xc2, xc3, xc4, xlt⟩ := X_3.out
    go_wp2_with fail
    refine (HN.out _ C_2).mono ?_
    rintro e w2 ⟨rfl, hb2⟩
    clear xc0 xc1 xc2 xc3 xc4 xlt
    have C_4 : Below w.heap.size w w2 := C_2.trans (hb2.mono C_2.size)
    clear C_2
    have X_5 := hide (X_3.out.below hb2)
    clear X_3
    clear hb2
    go_wp2_with fail
    refine bodyPost_ret (v := .tuple #[.bool R, .int .i64 0]) (by simp [results, Try.results27, go_sem]) rfl ⟨rfl, C_4⟩
  · have h0' : (asI x 3 == 0) = false := by rw [beq_eq_false_iff_ne]; exact h0
    rw [hasE, if_neg h0]
    clear h0 HN
    generalize asI x 3 = E at *
    generalize x.k = k at *
    generalize x.t = t at *
    generalize x.l.length = n1 at *
    generalize x.p.length = n2 at *
    generalize x.s.length = n3 at *
    go_enter Try.func27, Try.ntmps27
    go_wp2_with fail
    have C_0 : Below w.heap.size w (w.alloc (.cells #[.int .i64 k, .string t, .slice a1 n1 c1, .slice a2 n2 c2, .slice a3 n3 c3] 32)) := (Below.refl _ w).alloc (Nat.le_refl _) _
    have X_1 := hide (BoxAt.new w (.int .i64 k) (.string t) (.slice a1 n1 c1) (.slice a2 n2 c2) (.slice a3 n3 c3) 32)
    refine (HC.out _ C_0).mono ?_
    rintro e w1 ⟨rfl, hb1⟩
    have C_2 : Below w.heap.size w w1 := C_0.trans (hb1.mono C_0.size)
    clear C_0
    have X_3 := hide (X_1.out.below hb1)
    clear X_1
    clear hb1
    obtain ⟨xc0, xc1, xc2, xc3, xc4, xlt⟩ := X_3.out
    go_wp2_with fail
    refine bodyPost_ret (v := .tuple #[.bool false, .int .i64 E]) (by simp [results, Try.results27, go_sem]) rfl ⟨rfl, C_2⟩
end Go.Proofs.Ytkjnalbnhmpopaa
namespace Go.Proofs.Ytkjnalbnhmpopaa
open Go.RowKit Go.Lib Go.Sort Go.Shelf

set_option maxRecDepth 100000 in
theorem goes_any (b : Nat) (al : Option Addr) (cl : Nat) (l : List ByteArray) (s : ByteArray) (W : World) (hc : W.cell? ⟨b, 0, none⟩ = some (.slice al l.length cl)) (hl : TextsAt W al l) (hn : l.length ≤ 281474976710656) :
    Calls Try.prog 61 #[.string s, .pointer (some ⟨b, 0, none⟩)] W fun e w' => e = .returned (.bool (hasT l s)) ∧ w' = W := by
  have HN := hide (contains_any al cl l s W hl hn)
  clear hl
  generalize hasT l s = R at *
  go_enter Try.func61, Try.ntmps61
  go_wp2_with fail
  refine HN.out.mono ?_
  rintro e w1 ⟨rfl, rfl⟩
  go_wp2_with fail
  go_ret
  exact ⟨rfl, rfl⟩
theorem goes_gives (b : Nat) (al : Option Addr) (cl : Nat) (l : List ByteArray) (s : List UInt8) (W : World) (hc : W.cell? ⟨b, 0, none⟩ = some (.slice al l.length cl)) (hl : TextsAt W al l) (hn : l.length ≤ 281474976710656) :
    FnGives Try.prog 61 #[.pointer (some ⟨b, 0, none⟩)] #[encStr s] (.bool (hasT l ⟨s.toArray⟩)) W := by
  show Calls Try.prog 61 #[.string ⟨s.toArray⟩, .pointer (some ⟨b, 0, none⟩)] W _
  exact (goes_any b al cl l ⟨s.toArray⟩ W hc hl hn).mono fun _ _ ⟨h1, h2⟩ => ⟨h1, 0, by rw [h2]; rfl⟩
theorem row_cut {w : World} {base e g n m cap : Nat} {xs : List Value} (h : w.ownsRow base e 1 (.slice (some ⟨g, 0, none⟩) n cap) n xs) (hm : m ≤ n) : w.ownsRow base e 1 (.slice (some ⟨g, 0, none⟩) m cap) m (xs.take m) := by
  have hl := h.1
  rcases h.2 with ⟨h0, _⟩ | ⟨g', cap', cur, hv, hb, hgg, h1, h2, h3, h4⟩
  · cases h0
  · injection hv with e1 e2 e3
    injection e1 with e1
    injection e1 with e1 _ _
    subst e1 e3
    refine ⟨by rw [List.length_take]; omega, .inr ⟨_, _, cur, rfl, hb, hgg, by omega, h2, h3, ?_⟩⟩
    rw [← h4, List.take_take]
    congr 1
    omega
theorem strs_bytes (l : List ByteArray) : (bytesL l).map encStr = strs l := by
  unfold bytesL strs
  rw [List.map_map]
  rfl
theorem bytes_filter (p : ByteArray → Bool) (l : List ByteArray) : (bytesL l).filter (fun b => !p ⟨b.toArray⟩) = bytesL (l.filter fun t => !p t) := by
  unfold bytesL
  rw [List.filter_map]
  congr 1
theorem bytesL_len (l : List ByteArray) : (bytesL l).length = l.length := by simp [bytesL]
def stayL (L l : List ByteArray) : List ByteArray := L.filter fun t => !hasT l t
theorem stayL_len (L l : List ByteArray) : (stayL L l).length ≤ L.length := List.length_filter_le _ _
theorem delSome_any (b : Nat) (al : Option Addr) (cl : Nat) (l : List ByteArray) (g cap : Nat) (L : List ByteArray) (w0 w : World) (hrow : w.ownsRow w0.heap.size 9 1 (.slice (some ⟨g, 0, none⟩) L.length cap) L.length (strs L)) (hb : Below w0.heap.size w0 w)
    (hc : w0.cell? ⟨b, 0, none⟩ = some (.slice al l.length cl)) (hl : TextsAt w0 al l) (hn : l.length ≤ 281474976710656) (hL : L.length ≤ 281474976710656) :
    Calls Try.prog 59 #[.slice (some ⟨g, 0, none⟩) L.length cap, .func (.func 61) #[] #[.pointer (some ⟨b, 0, none⟩)]] w fun e w' => e = .returned (.slice (some ⟨g, 0, none⟩) (stayL L l).length cap) ∧ w'.ownsRow w0.heap.size 9 1 (.slice (some ⟨g, 0, none⟩) (stayL L l).length cap) (stayL L l).length (strs (stayL L l)) ∧ Below w0.heap.size w0 w' := by
  rcases hrow.2 with ⟨h0, _⟩ | ⟨g', cap', cur, hv, hbg, hgg, h1, h2, h3, h4⟩
  · cases h0
  injection hv with e1 e2 e3
  injection e1 with e1
  injection e1 with e1 _ _
  subst e1 e3
  have hH : Holds encStr w g 0 (bytesL L).toArray := holds_of_block hgg (by rw [bytesL_len, strs_bytes]; simpa using h4)
  have hlow : ∀ W, Below w0.heap.size w0 W → W.cell? ⟨b, 0, none⟩ = some (.slice al l.length cl) ∧ TextsAt W al l := fun W hW => ⟨(hW.cell (p := ⟨b, 0, none⟩) (World.block_lt_of_cell? _ _ hc)).trans hc, hl.below hW⟩
  have eg : ∀ args w, (callFunc 61 args).run Try.prog w = .ok (.enter 61 args) w := enters_of Try.func61 (by kernel_rfl) rfl
  have hp : PredAt Try.prog 61 #[.pointer (some ⟨b, 0, none⟩)] encStr (fun s => hasT l ⟨s.toArray⟩) w := fun W x hW => by
    have hWW : Below w0.heap.size w0 W := hb.trans (hW.mono hb.size)
    exact goes_gives b al cl l x W (hlow W hWW).1 (hlow W hWW).2 hn
  have hpo : PredOver Try.prog 61 #[.pointer (some ⟨b, 0, none⟩)] encStr (fun s => hasT l ⟨s.toArray⟩) g 0 (bytesL L).toArray.size w := fun n os dk x _ => by
    have hWW : Below w0.heap.size w0 (sortWorld encStr w g 0 n dk os) := hb.grown (grownBy_sorted dk) hb.size (fun j hj => by cases hj; exact hbg)
    exact goes_gives b al cl l x _ (hlow _ hWW).1 (hlow _ hWW).2 hn
  have hh := AnyE.slices_DeleteFunc Try.layDel encStr (fun _ => rfl) (fun s => hasT l ⟨s.toArray⟩) 61 #[.pointer (some ⟨b, 0, none⟩)] eg [] Try.zeroValue9 g 0 cap (bytesL L).toArray w hp hpo hH (by simp [bytesL_len]; omega) (by simp [bytesL_len]; omega)
  change Calls Try.prog 59 _ _ _ at hh
  rw [List.size_toArray, bytesL_len, bytes_filter (hasT l) L] at hh
  refine hh.mono ?_
  rintro e w' ⟨rfl, q, rfl⟩
  have hfl : (bytesL (L.filter fun t => !hasT l t)).length = (stayL L l).length := bytesL_len _
  have hle := stayL_len L l
  refine ⟨by rw [hfl], ?_, ?_⟩
  · have ho := ownsRow_sorted (n := q) (os := #[]) (ss := bytesL L) (ts := bytesL (L.filter fun t => !hasT l t) ++ List.replicate (L.length - (bytesL (L.filter fun t => !hasT l t)).length) []) (base := w0.heap.size) (by rw [List.length_append, List.length_replicate, hfl, bytesL_len]; omega) hbg hgg (by rw [bytesL_len]; exact h1) h2 h3
    rw [grow_empty] at ho
    have hcut := row_cut ho (m := (stayL L l).length) (by rw [bytesL_len]; exact hle)
    rw [List.map_append, strs_bytes, List.take_append_of_le_length (by simp [strs, stayL]), List.take_of_length_le (by simp [strs, stayL])] at hcut
    exact hcut
  · have hg2 := grownBy_sorted (w := w) (g := g) (n := q) (os := #[]) (bytesL (L.filter fun t => !hasT l t) ++ List.replicate (L.length - (bytesL (L.filter fun t => !hasT l t)).length) []).toArray
    rw [grow_empty] at hg2
    exact hb.grown hg2 hb.size (fun j hj => by cases hj; exact hbg)
set_option maxRecDepth 100000 in
set_option maxHeartbeats 1000000 in
theorem delNone_any (a : Option Addr) (cap : Nat) (fv : Value) (w : World) :
    Calls Try.prog 59 #[.slice a 0 cap, fv] w fun e w' => e = .returned (.slice a 0 cap) ∧ w' = w := by
  have HI := hide (AnyE.slices_IndexFunc_empty (P := Try.prog) (ρ := Try.layDel_ren) { Try.layDel with } a cap fv w)
  have HI2 : Hid (Calls Try.prog 78 #[.slice a 0 cap, fv] w fun e w' => e = .returned (.int .i64 (-1)) ∧ w' = w) := HI.out
  clear HI
  go_enter Try.func59, Try.ntmps59
  go_wp2_with fail
  refine HI2.out.mono ?_
  rintro e w1 ⟨rfl, rfl⟩
  go_wp2_with fail
  go_ret
  exact ⟨rfl, rfl⟩
/-- a copy, without these -/
theorem clone_any (a : Option Addr) (c : Nat) (L : List ByteArray) (w : World) (hL : TextsAt w a L) (hn : L.length ≤ 1000000) :
    Calls Try.prog 60 #[.slice a L.length c] w fun e w' => ∃ a' cap, e = .returned (.slice a' L.length cap) ∧ Below w.heap.size w w' ∧ (L ≠ [] → ∃ g, a' = some ⟨g, 0, none⟩ ∧ w'.ownsRow w.heap.size 9 1 (.slice (some ⟨g, 0, none⟩) L.length cap) L.length (strs L)) := by
  by_cases hne : L = []
  · subst hne
    cases a with
    | none =>
      refine (Try.slices_Clone_string_nil 0 c w).mono ?_
      rintro e w' ⟨rfl, rfl⟩
      exact ⟨none, 0, rfl, Below.refl _ _, fun h => absurd rfl h⟩
    | some ad =>
      refine (Try.slices_Clone_string_zero ad c w).mono ?_
      rintro e w' ⟨v', rfl, hown, _, hb⟩
      obtain ⟨ao, cp, rfl⟩ := slice_own hown
      exact ⟨ao, cp, rfl, hb, fun h => absurd rfl h⟩
  · obtain ⟨g0, o0, rfl, hc⟩ : ∃ g o, a = some ⟨g, o, none⟩ ∧ ∀ i (h : i < L.length), w.cell? ⟨g, o + i, none⟩ = some (.string L[i]) := by
      rcases hL with h | h
      · exact absurd h hne
      · exact h
    refine (Try.slices_Clone_string g0 o0 L.length c L w (Nat.le_refl _) (by omega) (fun j hj => by rw [hc j hj]; simp [hj])).mono ?_
    rintro e w' ⟨v', rfl, hown, hnn, hb⟩
    rw [List.take_length] at hown
    rcases hown.2 with ⟨hv, _⟩ | ⟨g, cap, cur, rfl, hbg, hgg, rest⟩
    · exact absurd hv hnn
    · exact ⟨_, _, rfl, hb, fun _ => ⟨g, rfl, hown⟩⟩
theorem delete_any (b : Nat) (al : Option Addr) (cl : Nat) (l : List ByteArray) (a' : Option Addr) (cap : Nat) (L : List ByteArray) (w0 w : World) (hb : Below w0.heap.size w0 w) (hrow : L ≠ [] → ∃ g, a' = some ⟨g, 0, none⟩ ∧ w.ownsRow w0.heap.size 9 1 (.slice (some ⟨g, 0, none⟩) L.length cap) L.length (strs L))
    (hc : w0.cell? ⟨b, 0, none⟩ = some (.slice al l.length cl)) (hl : TextsAt w0 al l) (hn : l.length ≤ 281474976710656) (hL : L.length ≤ 281474976710656) :
    Calls Try.prog 59 #[.slice a' L.length cap, .func (.func 61) #[] #[.pointer (some ⟨b, 0, none⟩)]] w fun e w' => e = .returned (.slice a' (stayL L l).length cap) ∧ (∀ W, (∀ g o u, w0.heap.size ≤ g → w'.cell? ⟨g, o, none⟩ = some u → W.cell? ⟨g, o, none⟩ = some u) → TextsAt W a' (stayL L l)) ∧ Below w0.heap.size w0 w' := by
  by_cases hne : L = []
  · subst hne
    refine (delNone_any a' cap _ w).mono ?_
    rintro e w' ⟨rfl, rfl⟩
    exact ⟨rfl, fun W _ => .inl rfl, hb⟩
  · obtain ⟨g, rfl, hown⟩ := hrow hne
    refine (delSome_any b al cl l g cap L w0 w hown hb hc hl hn hL).mono ?_
    rintro e w' ⟨rfl, h1, h2⟩
    exact ⟨rfl, fun W hW => texts_from h1 hW, h2⟩
end Go.Proofs.Ytkjnalbnhmpopaa
