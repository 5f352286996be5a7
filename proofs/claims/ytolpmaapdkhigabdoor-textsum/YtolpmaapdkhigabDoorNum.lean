/- WALKS of the numbers that texts tell. -/
import Derived.Test.YtolpmaapdkhigabDoorBase
import Derived.Test.YtolpmaapdkhigabDoorShelf2
import Derived.Lib.AtoiErrMem
import Derived.Handy
namespace Go.Proofs.YtolpmaapdkhigabDoor
open Go.RowKit

theorem gTab : Tryd.prog.globalNamed "internal/strconv.uint64pow10" = some 0 := by kernel_rfl

/-- What the library's variables hold. -/
structure Env (w : World) : Prop where
  tab : Lib.TabIs Tryd.prog w "internal/strconv.uint64pow10" .u64 Lib.pow10Tab
  e3 : ∃ ev, w.cell? ⟨1, 0, none⟩ = some ev ∧ (ev = .nilIface ∨ ∃ te pe, ev = .iface te pe)
  e4 : ∃ ev, w.cell? ⟨2, 0, none⟩ = some ev ∧ (ev = .nilIface ∨ ∃ te pe, ev = .iface te pe)
  lt : 2 + 1 ≤ w.heap.size

theorem Env.kept {S : Nat → Prop} {w w' : World} (h : Env w) (hk : Kept S w w') (hS : ∀ k, S k → 2 + 1 ≤ k) : Env w' := by
  have hlt := h.lt
  refine ⟨?_, ?_, ?_, Nat.le_trans hlt hk.size⟩
  · have ht := h.tab
    unfold Lib.TabIs World.var? at *
    rw [gTab] at ht ⊢
    simp only [Option.bind_some] at ht ⊢
    rw [hk.block 0 (by omega) (fun e => by have := hS _ e; omega)]
    exact ht
  · obtain ⟨ev, h1, h2⟩ := h.e3
    exact ⟨ev, hk.cell' h1 (fun e => by have := hS _ e; simp only at this; omega), h2⟩
  · obtain ⟨ev, h1, h2⟩ := h.e4
    exact ⟨ev, hk.cell' h1 (fun e => by have := hS _ e; simp only at this; omega), h2⟩
theorem Env.below {w w' : World} (h : Env w) (hb : Below w.heap.size w w') : Env w' := h.kept (Kept.of_below hb (fun _ => False)) (fun _ e => e.elim)

/-- the number that a text tells -/
def pInt (x : List UInt8) : Option Int :=
  match Lib.atoiAll x with
  | .ok v => if Lib.itoa v = x ∧ -999999999 ≤ v ∧ v ≤ 999999999 then some v else none
  | _ => none
theorem atoi_bounds {x : List UInt8} {v : Int} (h : Lib.atoiAll x = .ok v) : -9223372036854775808 ≤ v ∧ v ≤ 9223372036854775807 := by
  unfold Lib.atoiAll at h
  split at h
  · simp at h
  · simp only at h
    split at h
    · simp at h
    · simp at h
    · split at h
      · simp at h
      · split at h
        · simp at h
        · simp only [Lib.NumEnd.ok.injEq] at h
          subst h
          split <;> omega

theorem itoa_any (n : Int) (w : World) (h0 : -9223372036854775808 ≤ n) (h1 : n ≤ 9223372036854775807) (he : Env w) :
    Calls Tryd.prog 22 #[.int .i64 n] w fun e w' => e = .returned (.string ⟨(Lib.itoa n).toArray⟩) ∧ Below w.heap.size w w' := by
  refine (Tryd.strconv_Itoa n h0 h1 w he.tab).mono ?_
  rintro e w' ⟨rfl, k, os, rfl⟩
  refine ⟨rfl, rfl, rfl, rfl, ?_, fun i hi => ?_⟩
  · show w.heap.size ≤ (w.heap ++ os).size
    simp
  · show (w.heap ++ os)[i]? = w.heap[i]?
    rw [Array.getElem?_append_left hi]

/-- Atoi: a number, or an error -/
theorem atoi_ok (x : List UInt8) (v : Int) (w : World) (hx : x.length ≤ 281474976710656) (h : Lib.atoiAll x = .ok v) :
    Calls Tryd.prog 39 #[.string ⟨x.toArray⟩] w fun e w' => e = .returned (.tuple #[.int .i64 v, .nilIface]) ∧ Below w.heap.size w w' := by
  refine (Tryd.strconv_Atoi_ok ⟨x.toArray⟩ (by rw [size_mk]; omega) v (by rw [toList_mk]; exact h) w).mono ?_
  rintro e w' ⟨rfl, h2⟩
  refine ⟨rfl, ?_⟩
  rcases h2 with rfl | ⟨t, rfl⟩
  · exact Below.refl _ _
  · exact Lib.bytesWorld_below _ _ _
theorem atoi_bad (x : List UInt8) (w : World) (hx : x.length ≤ 281474976710656) (h : ∀ v, Lib.atoiAll x ≠ .ok v) (he : Env w) :
    Calls Tryd.prog 39 #[.string ⟨x.toArray⟩] w fun e w' => ∃ n T a, e = .returned (.tuple #[.int .i64 n, .iface T (.pointer (some a))]) ∧ Below w.heap.size w w' := by
  obtain ⟨ev3, h3, i3⟩ := he.e3
  obtain ⟨ev4, h4, i4⟩ := he.e4
  cases hc : Lib.atoiAll x with
  | ok v => exact absurd hc (h v)
  | range =>
    refine (Tryd.strconv_Atoi_range ⟨x.toArray⟩ (by rw [size_mk]; exact hx) (by rw [toList_mk]; exact hc) ev4 w h4 i4).mono ?_
    rintro e w' ⟨N, rfl, _, _, hb⟩
    exact ⟨_, _, _, rfl, hb⟩
  | _ =>
    refine (Tryd.strconv_Atoi_syntax ⟨x.toArray⟩ (by rw [size_mk]; exact hx) (by rw [toList_mk]; exact hc) ev3 w h3 i3).mono ?_
    rintro e w' ⟨N, rfl, _, _, hb⟩
    exact ⟨_, _, _, rfl, hb⟩


def mayN (n : Int) : Bool := decide (-999999999 ≤ n ∧ n ≤ 999999999)
theorem may_any (n : Int) (w : World) : Calls Tryd.prog 21 #[.int .i64 n] w fun e w' => e = .returned (.bool (mayN n)) ∧ w' = w := by
  by_cases h1 : -999999999 ≤ n
  · have hv : mayN n = decide (n ≤ 999999999) := by simp [mayN, h1]
    rw [hv]
    clear hv
    go_enter Tryd.func21, Tryd.ntmps21
    go_wp2_with fail
    go_ret
    exact ⟨rfl, rfl⟩
  · have hv : mayN n = false := by simp [mayN, h1]
    rw [hv]
    clear hv
    go_enter Tryd.func21, Tryd.ntmps21
    go_wp2_with fail
    go_ret
    exact ⟨rfl, rfl⟩
theorem mayN_iff (n : Int) : mayN n = true ↔ -999999999 ≤ n ∧ n ≤ 999999999 := by simp [mayN]

set_option maxRecDepth 100000 in
set_option maxHeartbeats 1000000 in
theorem digitsNumber_any (x : List UInt8) (w : World) (hx : x.length ≤ 281474976710656) (he : Env w) :
    Calls Tryd.prog 32 #[.string ⟨x.toArray⟩] w fun e w' => Below w.heap.size w w' ∧ (∀ v, pInt x = some v → e = .returned (.tuple #[.int .i64 v, .bool true])) ∧ (pInt x = none → e = .returned (.tuple #[.int .i64 0, .bool false])) := by
  by_cases hok : ∃ v, Lib.atoiAll x = .ok v
  · obtain ⟨v, hv⟩ := hok
    obtain ⟨hv1, hv2⟩ := atoi_bounds hv
    have HV := hide hv
    have HM : Hid (∀ W, Calls Tryd.prog 21 #[.int .i64 v] W fun e w' => e = .returned (.bool (mayN v)) ∧ w' = W) := fun W => may_any v W
    cases hr : mayN v with
    | true =>
      rw [hr] at HM
      by_cases hi : Lib.itoa v = x
      · have HP : Hid (pInt x = some v) := by
          simp only [Hid, pInt, hv]
          rw [if_pos ⟨hi, (mayN_iff v).1 hr⟩]
        clear hv hr
        go_enter Tryd.func32, Tryd.ntmps32
        go_wp2_with fail
        refine (atoi_ok x v w hx HV.out).mono ?_
        rintro e w2 ⟨rfl, hb2⟩
        go_wp2_with fail
        refine (HM.out _).mono ?_
        rintro e w3 ⟨rfl, rfl⟩
        have he3 : Env w3 := he.below hb2
        go_wp2_with fail
        refine (itoa_any v w3 hv1 hv2 he3).mono ?_
        rintro e w4 ⟨rfl, hb4⟩
        rw [hi]
        have hB : Below w.heap.size w w4 := hb2.trans (hb4.mono hb2.size)
        go_wp2_with fail
        go_ret2
        exact ⟨hB, fun v' h => by rw [HP.out] at h; simp at h; subst h; rfl, fun h => by rw [HP.out] at h; simp at h⟩
      · have HP : Hid (pInt x = none) := by
          simp only [Hid, pInt, hv]
          rw [if_neg (fun hh => hi hh.1)]
        have hib : (!Lib.itoa v == x) = true := by simp [hi]
        clear hv hr hi
        go_enter Tryd.func32, Tryd.ntmps32
        go_wp2_with fail
        refine (atoi_ok x v w hx HV.out).mono ?_
        rintro e w2 ⟨rfl, hb2⟩
        go_wp2_with fail
        refine (HM.out _).mono ?_
        rintro e w3 ⟨rfl, rfl⟩
        have he3 : Env w3 := he.below hb2
        go_wp2_with fail
        refine (itoa_any v w3 hv1 hv2 he3).mono ?_
        rintro e w4 ⟨rfl, hb4⟩
        have hB : Below w.heap.size w w4 := hb2.trans (hb4.mono hb2.size)
        go_wp2_with fail
        go_ret2
        exact ⟨hB, fun v' h => by rw [HP.out] at h; simp at h, fun _ => rfl⟩
    | false =>
      rw [hr] at HM
      have HP : Hid (pInt x = none) := by
        simp only [Hid, pInt, hv]
        rw [if_neg (fun hh => by rw [(mayN_iff v).2 hh.2] at hr; cases hr)]
      clear hv hr
      go_enter Tryd.func32, Tryd.ntmps32
      go_wp2_with fail
      refine (atoi_ok x v w hx HV.out).mono ?_
      rintro e w2 ⟨rfl, hb2⟩
      go_wp2_with fail
      refine (HM.out _).mono ?_
      rintro e w3 ⟨rfl, rfl⟩
      go_wp2_with fail
      go_ret2
      exact ⟨hb2, fun v' h => by rw [HP.out] at h; simp at h, fun _ => rfl⟩
  · have HP : Hid (pInt x = none) := by
      simp only [Hid, pInt]
      split
      · rename_i u hu; exact absurd ⟨u, hu⟩ hok
      · rfl
    have HOK : Hid (∀ v, Lib.atoiAll x ≠ .ok v) := fun v hv => hok ⟨v, hv⟩
    clear hok
    go_enter Tryd.func32, Tryd.ntmps32
    go_wp2_with fail
    refine (atoi_bad x w hx HOK.out he).mono ?_
    rintro e w2 ⟨nn, T, ad, rfl, hb2⟩
    go_wp2_with fail
    go_ret2
    exact ⟨hb2, fun v' h => by rw [HP.out] at h; simp at h, fun _ => rfl⟩
theorem pInt_bounds {x : List UInt8} {v : Int} (h : pInt x = some v) : -999999999 ≤ v ∧ v ≤ 999999999 ∧ Lib.itoa v = x := by
  unfold pInt at h
  split at h
  · split at h
    · rename_i hc
      simp at h
      subst h
      exact ⟨hc.2.1, hc.2.2, hc.1⟩
    · simp at h
  · simp at h
end Go.Proofs.YtolpmaapdkhigabDoor
