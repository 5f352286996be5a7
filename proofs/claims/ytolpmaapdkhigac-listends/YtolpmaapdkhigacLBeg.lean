/- WALK of what must be in any case with lists. -/
import Derived.Test.YtolpmaapdkhigacLst9
import Derived.Test.YtolpmaapdkhigacLst7
import Derived.Test.YtolpmaapdkhigacLst8
import Derived.Test.YtolpmaapdkhigacISame2
import Derived.Handy
namespace Go.Proofs.Ytolpmaapdkhigac
open Go.RowKit

def tA : ByteArray := ⟨#[97]⟩
def tB : ByteArray := ⟨#[98]⟩
def tC : ByteArray := ⟨#[99]⟩
def tD : ByteArray := ⟨#[100]⟩
def rowI : Itm := lstI [tA, tB, tA]
theorem ItemFrom.shape {B : Nat} {w : World} {v : Value} {x : Itm} (h : ItemFrom B w v x) : ∃ k t a1 n1 c1 a2 n2 c2 a3 n3 c3, v = .agg #[.int .i64 k, .string t, .slice a1 n1 c1, .slice a2 n2 c2, .slice a3 n3 c3] := by
  obtain ⟨⟨a1, c1, a2, c2, a3, c3, e, -, -, -⟩, -, -, -, -, -, -, -⟩ := h.is
  exact ⟨_, _, a1, _, c1, a2, _, c2, a3, _, c3, e⟩
theorem two_texts (w : World) (t1 t2 : ByteArray) (T : TypeId) (g : Nat) (hg : g = w.heap.size) : TextsAt (w.alloc (.cells #[.string t1, .string t2] T)) (some ⟨g, 0, none⟩) [t1, t2] := by
  subst hg
  refine .inr ⟨w.heap.size, 0, rfl, fun i hi => ?_⟩
  match i, hi with
  | 0, _ => simp [go_sem]
  | 1, _ => simp [go_sem]
theorem row_as : asI rowI 2 = 0 := lst_as (by decide) (by decide)
theorem row_l : rowI.l = [tA, tB, tA] := lstI_l' _
theorem lb_pushE : pushE rowI [tC, tD] = 0 := by
  rw [pushE, if_neg (by simp [row_as]), row_l, if_neg (by decide), if_neg (by decide)]
theorem lb_pushI : pushI rowI true [tC, tD] = lstI [tD, tC, tA, tB, tA] := by
  rw [pushI, if_pos lb_pushE, row_l]
  rfl
theorem lb_pushN : pushN rowI [tC, tD] = 5 := by
  rw [pushN, if_pos lb_pushE, row_l]
  rfl
theorem lb_range : trimI (lstI [tC, tA, tB, tA]) 0 1 = lstI [tC, tA] := by
  rw [trimI, if_pos (lst_as (by decide) (by decide)), lstI_l']
  congr 1
theorem lb_trim : trimI rowI 1 1 = lstI [tB] := by
  rw [trimI, if_pos row_as, row_l]
  congr 1
theorem lb_remK : remK [tA, tB, tA] tA = [tB] := by decide +kernel
theorem lb_remI : remI rowI tA = lstI [tB] := by
  rw [remI, if_pos row_as, row_l, lb_remK]
theorem lb_remN : remN rowI tA = 2 := by
  rw [remN, if_pos row_as, row_l, lb_remK]
  rfl

set_option maxRecDepth 100000 in
set_option maxHeartbeats 2000000 in
theorem row_any (w : World) : Calls Try.prog 35 #[] w fun e w' => ∃ u, e = .returned u ∧ ItemFrom w.heap.size w' u rowI ∧ Below w.heap.size w w' := by
  go_enter Try.func35, Try.ntmps35
  go_wp2_with fail
  refine bodyPost_ret (v := .agg #[.int .i64 2, .string ⟨#[]⟩, .slice (some ⟨w.heap.size + 1, 0, none⟩) 3 3, .slice none 0 0, .slice none 0 0]) (by simp [results, Try.results35, go_sem]) rfl ⟨_, rfl, ?_, ?_⟩
  · intro w'' hw
    refine lstI_is (l := [tA, tB, tA]) (.inr ⟨w.heap.size + 1, 0, rfl, fun i hi => hw _ _ _ (by omega) ?_⟩) (by simp) (by decide) (by decide)
    match i, hi with
    | 0, _ => simp [go_sem, tA]
    | 1, _ => simp [go_sem, tB]
    | 2, _ => simp [go_sem, tA]
  · go_grown

set_option maxRecDepth 100000 in
set_option maxHeartbeats 2000000 in
theorem listBegun_any (w : World) : Calls Try.prog 16 #[] w fun e w' => e = .returned (.bool true) ∧ Below w.heap.size w w' := by
  have HR := hide row_any
  have H1 : Hid (∀ v al cl W, ItemIs W v rowI → TextsAt W al [tC, tD] → Calls Try.prog 5 #[v, .bool true, .slice al 2 cl] W fun e w' => ∃ u, e = .returned (.tuple #[u, .int .i64 5, .int .i64 0]) ∧ ItemFrom W.heap.size w' u (lstI [tD, tC, tA, tB, tA]) ∧ Below W.heap.size W w') := fun v al cl W h1 h2 => by
    have h := push_any v rowI true al cl [tC, tD] W h1 h2 (by decide)
    rw [lb_pushE, lb_pushI, lb_pushN] at h
    exact h
  have H2 : Hid (∀ v W, ItemIs W v (lstI [tD, tC, tA, tB, tA]) → Calls Try.prog 6 #[v, .bool true] W fun e w' => ∃ u, e = .returned (.tuple #[u, .string ⟨#[100]⟩, .int .i64 0]) ∧ ItemFrom W.heap.size w' u (lstI [tC, tA, tB, tA]) ∧ Below W.heap.size W w') := fun v W h1 => by
    have h := pop_any v _ true W h1
    obtain ⟨p1, p2, p3⟩ := pop_front (t := tD) (M := [tC, tA, tB, tA]) (by decide) (by decide)
    rw [p1, p2, p3] at h
    exact h
  have H3 : Hid (∀ v W, ItemIs W v (lstI [tC, tA, tB, tA]) → Calls Try.prog 7 #[v, .int .i64 0, .int .i64 1] W fun e w' => ∃ a c, e = .returned (.tuple #[.slice a 2 c, .int .i64 0]) ∧ TextsAt w' a [tC, tA] ∧ Below W.heap.size W w') := fun v W h1 => by
    have h := listRange_any v _ 0 1 W h1 (by decide) (by decide) (by decide) (by decide)
    rw [lb_range, lstI_l', lst_as (by decide) (by decide)] at h
    exact h
  have H4 : Hid (∀ v W, ItemIs W v rowI → Calls Try.prog 8 #[v, .int .i64 1, .int .i64 1] W fun e w' => ∃ u, e = .returned (.tuple #[u, .int .i64 0]) ∧ ItemFrom W.heap.size w' u (lstI [tB]) ∧ Below W.heap.size W w') := fun v W h1 => by
    have h := trim_any v _ 1 1 W h1 (by decide) (by decide) (by decide) (by decide)
    rw [lb_trim, row_as] at h
    exact h
  have H5 : Hid (∀ v W, ItemIs W v rowI → Calls Try.prog 9 #[v, .string tA] W fun e w' => ∃ u, e = .returned (.tuple #[u, .int .i64 2, .int .i64 0]) ∧ ItemFrom W.heap.size w' u (lstI [tB]) ∧ Below W.heap.size W w') := fun v W h1 => by
    have h := remove_any v _ tA W h1
    rw [lb_remI, lb_remN, row_as] at h
    exact h
  have H6 : Hid (∀ a b c d W, TextsAt W a [tC, tA] → TextsAt W b [tC, tA] → Calls Try.prog 18 #[.slice a 2 c, .slice b 2 d] W fun e w' => e = .returned (.bool true) ∧ Below W.heap.size W w') := fun a b c d W h1 h2 => by
    have h := sameT_any a b c d _ _ W h1 h2 (by decide)
    rw [decide_eq_true rfl] at h
    exact h
  have H7 : Hid (∀ v u W, ItemIs W v (lstI [tB]) → ItemIs W u (lstI [tB]) → Calls Try.prog 19 #[v, u] W fun e w' => e = .returned (.bool true) ∧ Below W.heap.size W w') := fun v u W h1 h2 => by
    have h := sameItem_any v u _ _ W h1 h2
    rw [show sameI (lstI [tB]) (lstI [tB]) = true by simp [sameI]] at h
    exact h
  go_enter Try.func16, Try.ntmps16
  go_wp2_with fail
  refine (HR.out _).mono ?_
  rintro e w1 ⟨u1, rfl, i1, hb1⟩
  have B1 : Below w.heap.size w w1 := hb1
  have I1 := hide i1.is
  clear i1
  go_wp2_with fail
  refine (H1.out _ _ _ _ (I1.out.below ((Below.refl _ w1).alloc (Nat.le_refl _) _)) (by exact two_texts w1 _ _ _ _ rfl)).mono ?_
  rintro e w2 ⟨u2, rfl, i2, hb2⟩
  have B2 : Below w.heap.size w w2 := (B1.alloc B1.size _).trans (hb2.mono (by have := B1.size; simp; omega))
  have I2 := hide i2.is
  obtain ⟨k2, t2, a21, n21, c21, a22, n22, c22, a23, n23, c23, rfl⟩ := i2.shape
  clear i2 I1 hb1 hb2 B1 H1
  go_wp2_with fail
  refine (H2.out _ _ (I2.out.below ((Below.refl _ w2).alloc (Nat.le_refl _) _))).mono ?_
  rintro e w3 ⟨u3, rfl, i3, hb3⟩
  have B3 : Below w.heap.size w w3 := (B2.alloc B2.size _).trans (hb3.mono (by have := B2.size; simp; omega))
  have I3 := hide i3.is
  obtain ⟨k3, t3, a31, n31, c31, a32, n32, c32, a33, n33, c33, rfl⟩ := i3.shape
  clear i3 I2 hb3 B2 H2
  go_wp2_with fail
  refine (H3.out _ _ (I3.out.below ((Below.refl _ w3).alloc (Nat.le_refl _) _))).mono ?_
  rintro e w4 ⟨a4, c4, rfl, T4, hb4⟩
  have B4 : Below w.heap.size w w4 := (B3.alloc B3.size _).trans (hb4.mono (by have := B3.size; simp; omega))
  have T4' := hide T4
  clear I3 T4 hb4 B3 H3
  go_wp2_with fail
  refine (HR.out w4).mono ?_
  rintro e w5 ⟨u5, rfl, i5, hb5⟩
  have B5 : Below w.heap.size w w5 := B4.trans (hb5.mono B4.size)
  have T5 := hide (T4'.out.below hb5)
  have I5 := hide i5.is
  clear i5 hb5 T4' B4
  go_wp2_with fail
  refine (H4.out _ w5 I5.out).mono ?_
  rintro e w6 ⟨u6, rfl, i6, hb6⟩
  have B6 : Below w.heap.size w w6 := B5.trans (hb6.mono B5.size)
  have T6 := hide (T5.out.below hb6)
  have I6 := hide i6.is
  obtain ⟨k6, t6, a61, n61, c61, a62, n62, c62, a63, n63, c63, rfl⟩ := i6.shape
  clear i6 I5 T5 hb6 B5 H4
  go_wp2_with fail
  refine (HR.out _).mono ?_
  rintro e w7 ⟨u7, rfl, i7, hb7⟩
  obtain ⟨e7, f7⟩ := bcell hb7
  have z7 : w6.heap.size < w7.heap.size := by have := hb7.size; simp at this; omega
  have B7 : Below w.heap.size w w7 := (B6.alloc B6.size _).trans (hb7.mono (by have := B6.size; simp; omega))
  have hh7 : Below w6.heap.size w6 w7 := ((Below.refl _ w6).alloc (Nat.le_refl _) _).trans (hb7.mono (by simp))
  have T7 := hide (T6.out.below hh7)
  have I67 := hide (I6.out.below hh7)
  have I7 := hide i7.is
  clear i7 I6 T6 hb7 hh7 B6 HR
  go_wp2_with fail
  refine (H5.out _ w7 I7.out).mono ?_
  rintro e w8 ⟨u8, rfl, i8, hb8⟩
  obtain ⟨e8, f8⟩ := bcell hb8
  have z8 : w6.heap.size < w8.heap.size := by have := hb8.size; omega
  have B8 : Below w.heap.size w w8 := B7.trans (hb8.mono B7.size)
  have T8 := hide (T7.out.below hb8)
  have I68 := hide (I67.out.below hb8)
  have I8 := hide i8.is
  obtain ⟨k8, t8, a81, n81, c81, a82, n82, c82, a83, n83, c83, rfl⟩ := i8.shape
  clear i8 I7 T7 I67 hb8 B7 H5
  go_wp2_with fail
  refine (H6.out _ _ _ _ _ (T8.out.below (((Below.refl _ w8).alloc (Nat.le_refl _) _).alloc (by simp) _)) (by exact two_texts _ _ _ _ _ (by simp))).mono ?_
  rintro e w9 ⟨rfl, hb9⟩
  obtain ⟨e9, f9⟩ := bcell hb9
  have z9 : w8.heap.size < w9.heap.size := by have := hb9.size; simp at this; omega
  have y9 : w6.heap.size < w9.heap.size := by omega
  have y8 : w6.heap.size < w8.heap.size + 1 := by omega
  have y8' : w6.heap.size < w8.heap.size + 1 + 1 := by omega
  have B9 : Below w.heap.size w w9 := ((B8.alloc B8.size _).alloc (by have := B8.size; simp; omega) _).trans (hb9.mono (by have := B8.size; simp; omega))
  have hh9 : Below w8.heap.size w8 w9 := (((Below.refl _ w8).alloc (Nat.le_refl _) _).alloc (by simp) _).trans (hb9.mono (by simp; omega))
  have I69 := hide (I68.out.below hh9)
  have I89 := hide (I8.out.below hh9)
  clear I68 I8 T8 hb9 hh9 B8 H6
  go_wp2_with fail
  refine (H7.out _ _ w9 I69.out I89.out).mono ?_
  rintro e w10 ⟨rfl, hb10⟩
  have B10 : Below w.heap.size w w10 := B9.trans (hb10.mono B9.size)
  go_wp2_with fail
  go_ret
  exact ⟨rfl, B10⟩
end Go.Proofs.Ytolpmaapdkhigac
