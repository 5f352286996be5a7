/- WALKS of sets: is a text in a list; the item of members; is it one. -/
import Derived.Test.YtmpcnkaodjjkbacSPl
import Derived.Test.YtmpcnkaodjjkbacComC
import Derived.Test.YtmpcnkaodjjkbacBoxes
import Derived.Test.YtmpcnkaodjjkbacShelfS
import Derived.Lib.SlicesS
import Derived.Handy
namespace Go.Proofs.Ytmpcnkaodjjkbac
open Go.RowKit

theorem contains_any (a : Option Addr) (cap : Nat) (ts : List ByteArray) (s : ByteArray) (w : World) (hs : TextsAt w a ts) (hn : ts.length ≤ 281474976710656) :
    Calls Try.prog 56 #[.slice a ts.length cap, .string s] w fun e w' => e = .returned (.bool (hasT ts s)) ∧ w' = w := by
  rcases hs with rfl | ⟨g, o, rfl, hc⟩
  · exact Try.slices_Contains_string_empty a cap s w
  · have hh := Try.slices_Contains_string g o ts.length cap ts s w (Nat.le_refl _) (by omega) (fun j hj => by rw [hc j hj]; simp [hj])
    rw [List.take_length, show Lib.containsS ts s = hasT ts s from Bool.eq_iff_iff.2 (Iff.trans (Lib.containsS_iff _ _) hasT_iff.symm)] at hh
    exact hh
set_option maxRecDepth 100000 in
theorem setOf_any (a : Option Addr) (n cap : Nat) (w : World) (hn : n ≤ 281474976710656) :
    Calls Try.prog 52 #[.slice a n cap] w fun e w' => e = .returned (if n = 0 then .agg #[.int .i64 0, .string ⟨#[]⟩, .slice none 0 0, .slice none 0 0, .slice none 0 0] else .agg #[.int .i64 3, .string ⟨#[]⟩, .slice a n cap, .slice none 0 0, .slice none 0 0]) ∧ Below w.heap.size w w' := by
  by_cases h0 : n = 0
  · subst h0
    go_enter Try.func52, Try.ntmps52
    go_wp2_with fail
    refine bodyPost_ret (v := .agg #[.int .i64 0, .string ⟨#[]⟩, .slice none 0 0, .slice none 0 0, .slice none 0 0]) (by simp [results, Try.results52, go_sem]) rfl ⟨rfl, ?_⟩
    go_grown
  · have h0' : ¬ ((n : Nat) : Int) = 0 := by omega
    rw [if_neg h0]
    go_enter Try.func52, Try.ntmps52
    go_wp2_with fail
    refine bodyPost_ret (v := .agg #[.int .i64 3, .string ⟨#[]⟩, .slice a n cap, .slice none 0 0, .slice none 0 0]) (by simp [results, Try.results52, go_sem]) rfl ⟨rfl, ?_⟩
    go_grown
/-- is it one? -/
def hasE (x : Itm) (s : ByteArray) : Bool := if asI x 3 = 0 then hasT x.l s else false
set_option maxRecDepth 100000 in
set_option maxHeartbeats 1000000 in
theorem has_any (v : Value) (x : Itm) (s : ByteArray) (w : World) (h : ItemIs w v x) :
    Calls Try.prog 26 #[v, .string s] w fun e w' => e = .returned (.tuple #[.bool (hasE x s), .int .i64 (asI x 3)]) ∧ Below w.heap.size w w' := by
  have HI := hide h
  obtain ⟨⟨a1, c1, a2, c2, a3, c3, rfl, hx1, -, -⟩, -, -, -, -, hl1, -, -⟩ := h
  have HC : Hid (∀ W, Below w.heap.size w W → Calls Try.prog 34 #[.agg #[.int .i64 x.k, .string x.t, .slice a1 x.l.length c1, .slice a2 x.p.length c2, .slice a3 x.s.length c3], .int .i64 3] W fun e w' => e = .returned (.int .i64 (asI x 3)) ∧ Below W.heap.size W w') := fun W hW => common_any _ x 3 W (HI.out.below hW)
  have HX := hide hx1
  have HN : Hid (∀ W, Below w.heap.size w W → Calls Try.prog 56 #[.slice a1 x.l.length c1, .string s] W fun e w' => e = .returned (.bool (hasT x.l s)) ∧ Below W.heap.size W w') := fun W hW => (contains_any a1 c1 x.l s W (HX.out.below hW) hl1).mono fun _ _ ⟨h1, h2⟩ => ⟨h1, by rw [h2]; exact Below.refl _ _⟩
  clear HI hx1 HX hl1
  by_cases h0 : asI x 3 = 0
  · rw [hasE, if_pos h0, h0]
    rw [h0] at HC
    clear h0
    generalize hasT x.l s = R at *
    generalize x.k = k at *
    generalize x.t = t at *
    generalize x.l.length = n1 at *
    generalize x.p.length = n2 at *
    generalize x.s.length = n3 at *
    go_enter Try.func26, Try.ntmps26
    go_wp2_with fail
    have C_0 : Below w.heap.size w (w.alloc (.cells #[.int .i64 k, .string t, .slice a1 n1 c1, .slice a2 n2 c2, .slice a3 n3 c3] 26)) := (Below.refl _ w).alloc (Nat.le_refl _) _
    have X_1 := hide (BoxAt.new w (.int .i64 k) (.string t) (.slice a1 n1 c1) (.slice a2 n2 c2) (.slice a3 n3 c3) 26)
    refine (HC.out _ C_0).mono ?_
    rintro e w1 ⟨rfl, hb1⟩
    have C_2 : Below w.heap.size w w1 := C_0.trans (hb1.mono C_0.size)
    clear C_0
    have X_3 := hide (X_1.out.below hb1)
    clear X_1
    clear hb1
    obtain ⟨xc0, xc1, xc2, xc3, xc4, xlt⟩ := X_3.out
    go_wp2_with fail
    refine (HN.out _ C_2).mono ?_
    rintro e w2 ⟨rfl, hb2⟩
    clear xc0 xc1 xc2 xc3 xc4 xlt
    have C_4 : Below w.heap.size w w2 := C_2.trans (hb2.mono C_2.size)
    clear C_2
    have X_5 := hide (X_3.out.below hb2)
    clear X_3
    clear hb2
    go_wp2_with fail
    refine bodyPost_ret (v := .tuple #[.bool R, .int .i64 0]) (by simp [results, Try.results26, go_sem]) rfl ⟨rfl, C_4⟩
  · have h0' : (asI x 3 == 0) = false := by rw [beq_eq_false_iff_ne]; exact h0
    rw [hasE, if_neg h0]
    clear h0 HN
    generalize asI x 3 = E at *
    generalize x.k = k at *
    generalize x.t = t at *
    generalize x.l.length = n1 at *
    generalize x.p.length = n2 at *
    generalize x.s.length = n3 at *
    go_enter Try.func26, Try.ntmps26
    go_wp2_with fail
    have C_0 : Below w.heap.size w (w.alloc (.cells #[.int .i64 k, .string t, .slice a1 n1 c1, .slice a2 n2 c2, .slice a3 n3 c3] 26)) := (Below.refl _ w).alloc (Nat.le_refl _) _
    have X_1 := hide (BoxAt.new w (.int .i64 k) (.string t) (.slice a1 n1 c1) (.slice a2 n2 c2) (.slice a3 n3 c3) 26)
    refine (HC.out _ C_0).mono ?_
    rintro e w1 ⟨rfl, hb1⟩
    have C_2 : Below w.heap.size w w1 := C_0.trans (hb1.mono C_0.size)
    clear C_0
    have X_3 := hide (X_1.out.below hb1)
    clear X_1
    clear hb1
    obtain ⟨xc0, xc1, xc2, xc3, xc4, xlt⟩ := X_3.out
    go_wp2_with fail
    refine bodyPost_ret (v := .tuple #[.bool false, .int .i64 E]) (by simp [results, Try.results26, go_sem]) rfl ⟨rfl, C_2⟩
end Go.Proofs.Ytmpcnkaodjjkbac
