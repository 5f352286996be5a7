/- WALK of GlobPlain. -/
import Derived.Test.YtkjnalbnhmpopaaGLaw
import Derived.BigQuiet
import Derived.Handy
namespace Go.Proofs.Ytkjnalbnhmpopaa
open Go.RowKit

theorem ba_ext2 {a : ByteArray} {l : List UInt8} (h : a.data.toList = l) : a = ⟨l.toArray⟩ := by
  cases a with
  | mk d => simp only at h; rw [← h]
theorem list_beq_ba (a b : ByteArray) : (a.data.toList == b.data.toList) = (a.toList == b.toList) := by
  rw [ByteArray.toList_eq, ByteArray.toList_eq]
theorem plain_each {p s : ByteArray} (hp : p.size ≤ 30) (hs : s.size ≤ 60) : matchE ⟨(escaped p.data.toList).toArray⟩ s = 0 ∧ matchB ⟨(escaped p.data.toList).toArray⟩ s = (p.toList == s.toList) := by
  have h := match_of (p := ⟨(escaped p.data.toList).toArray⟩) (s := s) (by rw [size_mk, escaped_len, size_list]; omega) hs (by rw [toList_mk]; exact parts_escaped _)
  exact ⟨h.2.1, by rw [h.2.2, mat_lits, list_beq_ba]⟩
theorem plain_self {p s : ByteArray} (hp : p.size ≤ 30) (hs : s.size ≤ 60) (h : p.data.toList.any isSign = false) : matchE p s = 0 ∧ matchB p s = (p.toList == s.toList) := by
  have h := match_of (p := p) (s := s) (by omega) hs (parts_plain _ h)
  exact ⟨h.2.1, by rw [h.2.2, mat_lits, list_beq_ba]⟩
theorem take_getB (D : ByteArray) (k : Nat) (h : k < D.size) : D.data.toList.take (k + 1) = D.data.toList.take k ++ [D[k]] := by
  rw [List.take_succ_eq_append_getElem (by rw [size_list]; exact h)]
  rfl
theorem sign_tests (c : UInt8) : isSign c = (decide (((c.toNat : Nat) : Int) = 42) || decide (((c.toNat : Nat) : Int) = 63) || decide (((c.toNat : Nat) : Int) = 91) || decide (((c.toNat : Nat) : Int) = 92)) := by
  have e : ∀ k : UInt8, (c == k) = decide (((c.toNat : Nat) : Int) = ((k.toNat : Nat) : Int)) := fun k => by
    rw [← u8_beq]
    rfl
  unfold isSign
  rw [e 42, e 63, e 91, e 92]
  rfl

set_option maxRecDepth 100000 in
set_option maxHeartbeats 2000000 in
theorem globPlain_walk (p s : ByteArray) (w : World) :
    Calls Try.prog 3 #[.string p, .string s] w fun e w' => e = .returned (.bool true) ∧ Below w.heap.size w w' := by
  have HB : Hid (∀ W, Calls Try.prog 9 #[] W fun e w' => e = .returned (.bool true) ∧ Below W.heap.size W w') := fun W => globBegun_any W
  by_cases hp : p.size ≤ 30
  · by_cases hs : s.size ≤ 60
    · have n1 : ¬ (30 : Int) < ((p.size : Nat) : Int) := by omega
      have n2 : ¬ (60 : Int) < ((s.size : Nat) : Int) := by omega
      obtain ⟨e1, e2⟩ := plain_each hp hs
      have H1 : Hid (∀ W, Calls Try.prog 10 #[.string ⟨(escaped p.data.toList).toArray⟩, .string s] W fun e w' => e = .returned (.tuple #[.bool (p.toList == s.toList), .int .i64 0]) ∧ Below W.heap.size W w') := fun W => by
        have := match_tells ⟨(escaped p.data.toList).toArray⟩ s W
        rw [e1, e2] at this
        exact this
      have H2 : Hid (∀ W, Calls Try.prog 10 #[.string p, .string s] W fun e w' => e = .returned (.tuple #[.bool (matchB p s), .int .i64 (matchE p s)]) ∧ Below W.heap.size W w') := fun W => match_tells p s W
      have HPL : Hid (p.data.toList.any isSign = false → matchE p s = 0 ∧ matchB p s = (p.toList == s.toList)) := fun h => plain_self hp hs h
      clear e1 e2
      generalize matchE p s = E at *
      generalize matchB p s = B at *
      go_enter Try.func3, Try.ntmps3
      go_wp2_with fail
      refine (HB.out _).mono ?_
      rintro e w0 ⟨rfl, hb0⟩
      have z0 := hb0.size
      go_wp2_with fail
      go_loop [5, 6, 7] (fun vp ve vi => ∃ (k : Nat), k ≤ p.size ∧ vi = .int .i64 k ∧ vp = .bool (!(p.data.toList.take k).any isSign) ∧ ve = .string ⟨(escaped (p.data.toList.take k)).toArray⟩) (fun _ _ vi => p.size - (intOf vi).toNat)
      case atStart => exact ⟨0, Nat.zero_le _, rfl, by simp, by simp [escaped]⟩
      case round =>
        obtain ⟨k, hk, rfl, rfl, rfl⟩ := hrel
        by_cases hlt : k < p.size
        · have HT := hide (take_getB p k hlt)
          have hsl : ∀ W : World, (Instr.slice 9 (.string p) (some (.int .i64 (k : Int))) (some (.int .i64 ((k : Int) + 1))) none).run Try.prog W = .ok (.string ⟨#[p[k]]⟩) W := fun W => by
            rw [run_slice_string (P := Try.prog) W 9 p .i64 .i64 _ _ Try.underlying9 (by omega) (by omega) (by omega)]
            rw [show ((k : Int) + 1).toNat = k + 1 by omega, Int.toNat_natCast, extract_list, List.drop_eq_getElem_cons (by rw [size_list]; exact hlt), show k + 1 - k = 1 by omega]
            rfl
          have HE : Hid ((⟨(escaped (p.data.toList.take k)).toArray⟩ ++ (⟨#[92]⟩ ++ ⟨#[p[k]]⟩) : ByteArray) = ⟨(escaped (p.data.toList.take (k + 1))).toArray⟩) := ba_ext2 (by rw [list_append, list_append, toList_mk, HT.out, escaped_snoc]; rfl)
          have HQ : Hid ((!(p.data.toList.take (k + 1)).any isSign) = ((!(p.data.toList.take k).any isSign) && !isSign p[k])) := by rw [Hid, HT.out, List.any_append]; simp
          have hes : (⟨(escaped (p.data.toList.take k)).toArray⟩ : ByteArray).size ≤ 60 := by rw [size_mk, escaped_len, List.length_take, size_list]; omega
          have HST := hide (sign_tests p[k])
          generalize hEE : (⟨(escaped (p.data.toList.take k)).toArray⟩ : ByteArray) = EE at *
          generalize hPX : (⟨#[p[k]]⟩ : ByteArray) = PX at *
          have hpx : PX.size = 1 := by rw [← hPX]; rfl
          have m1 : ¬ 9223372036854775807 < 1 + PX.size := by omega
          have m2 : ¬ 9223372036854775807 < EE.size + (1 + PX.size) := by omega
          generalize (!(p.data.toList.take k).any isSign) = PB at *
          clear hEE
          cases PB with
          | false =>
            have HQ2 : Hid ((!(p.data.toList.take (k + 1)).any isSign) = false) := by rw [Hid, HQ.out]; rfl
            go_wp2_with fail
            go_round
            case rel => exact ⟨k + 1, by omega, by go_num, by rw [HQ2.out], by rw [HE.out]⟩
            case measure => simp only [intOf]; omega
          | true =>
            by_cases t1 : ((p[k].toNat : Nat) : Int) = 42
            · have HQ2 : Hid ((!(p.data.toList.take (k + 1)).any isSign) = false) := by rw [Hid, HQ.out, HST.out]; simp [t1]
              go_wp2_with fail
              go_round
              case rel => exact ⟨k + 1, by omega, by go_num, by rw [HQ2.out], by rw [HE.out]⟩
              case measure => simp only [intOf]; omega
            by_cases t2 : ((p[k].toNat : Nat) : Int) = 63
            · have HQ2 : Hid ((!(p.data.toList.take (k + 1)).any isSign) = false) := by rw [Hid, HQ.out, HST.out]; simp [t2]
              go_wp2_with fail
              go_round
              case rel => exact ⟨k + 1, by omega, by go_num, by rw [HQ2.out], by rw [HE.out]⟩
              case measure => simp only [intOf]; omega
            by_cases t3 : ((p[k].toNat : Nat) : Int) = 91
            · have HQ2 : Hid ((!(p.data.toList.take (k + 1)).any isSign) = false) := by rw [Hid, HQ.out, HST.out]; simp [t3]
              go_wp2_with fail
              go_round
              case rel => exact ⟨k + 1, by omega, by go_num, by rw [HQ2.out], by rw [HE.out]⟩
              case measure => simp only [intOf]; omega
            by_cases t4 : ((p[k].toNat : Nat) : Int) = 92
            · have HQ2 : Hid ((!(p.data.toList.take (k + 1)).any isSign) = false) := by rw [Hid, HQ.out, HST.out]; simp [t4]
              go_wp2_with fail
              go_round
              case rel => exact ⟨k + 1, by omega, by go_num, by rw [HQ2.out], by rw [HE.out]⟩
              case measure => simp only [intOf]; omega
            have HQ2 : Hid ((!(p.data.toList.take (k + 1)).any isSign) = true) := by rw [Hid, HQ.out, HST.out]; simp [t1, t2, t3, t4]
            go_wp2_with fail
            go_round
            case rel => exact ⟨k + 1, by omega, by go_num, by rw [HQ2.out]; simp [bne, t1, t2, t3, t4], by rw [HE.out]⟩
            case measure => simp only [intOf]; omega
        · have hkk : k = p.size := by omega
          subst hkk
          have htk : p.data.toList.take p.size = p.data.toList := List.take_of_length_le (by rw [size_list]; omega)
          rw [htk]
          have HPL2 := HPL
          generalize (⟨(escaped p.data.toList).toArray⟩ : ByteArray) = EP at *
          cases hR : (p.toList == s.toList) with
          | true =>
            rw [hR] at H1 HPL
            cases hPF : p.data.toList.any isSign with
            | true =>
              clear HPL2 HPL
              go_wp2_with fail
              refine (H1.out _).mono ?_
              rintro e w1 ⟨rfl, hb1⟩
              go_wp2_with fail
              refine (H2.out _).mono ?_
              rintro e w2 ⟨rfl, hb2⟩
              have z1 := hb1.size
              go_wp2_with fail
              go_ret
              exact ⟨rfl, (hb0.trans (hb1.mono z0)).trans (hb2.mono (by omega))⟩
            | false =>
              obtain ⟨rfl, rfl⟩ := HPL.out hPF
              clear HPL2 HPL
              go_wp2_with fail
              refine (H1.out _).mono ?_
              rintro e w1 ⟨rfl, hb1⟩
              go_wp2_with fail
              refine (H2.out _).mono ?_
              rintro e w2 ⟨rfl, hb2⟩
              have z1 := hb1.size
              go_wp2_with fail
              go_ret
              exact ⟨rfl, (hb0.trans (hb1.mono z0)).trans (hb2.mono (by omega))⟩
          | false =>
            rw [hR] at H1 HPL
            cases hPF : p.data.toList.any isSign with
            | true =>
              clear HPL2 HPL
              go_wp2_with fail
              refine (H1.out _).mono ?_
              rintro e w1 ⟨rfl, hb1⟩
              go_wp2_with fail
              refine (H2.out _).mono ?_
              rintro e w2 ⟨rfl, hb2⟩
              have z1 := hb1.size
              go_wp2_with fail
              go_ret
              exact ⟨rfl, (hb0.trans (hb1.mono z0)).trans (hb2.mono (by omega))⟩
            | false =>
              obtain ⟨rfl, rfl⟩ := HPL.out hPF
              clear HPL2 HPL
              go_wp2_with fail
              refine (H1.out _).mono ?_
              rintro e w1 ⟨rfl, hb1⟩
              go_wp2_with fail
              refine (H2.out _).mono ?_
              rintro e w2 ⟨rfl, hb2⟩
              have z1 := hb1.size
              go_wp2_with fail
              go_ret
              exact ⟨rfl, (hb0.trans (hb1.mono z0)).trans (hb2.mono (by omega))⟩
    · have n1 : ¬ (30 : Int) < ((p.size : Nat) : Int) := by omega
      have n2 : (60 : Int) < ((s.size : Nat) : Int) := by omega
      go_enter Try.func3, Try.ntmps3
      go_wp2_with fail
      refine (HB.out _).mono ?_
      rintro e w0 ⟨rfl, hb0⟩
      go_wp2_with fail
      go_ret
      exact ⟨rfl, hb0⟩
  · have n1 : (30 : Int) < ((p.size : Nat) : Int) := by omega
    go_enter Try.func3, Try.ntmps3
    go_wp2_with fail
    refine (HB.out _).mono ?_
    rintro e w0 ⟨rfl, hb0⟩
    go_wp2_with fail
    go_ret
    exact ⟨rfl, hb0⟩
end Go.Proofs.Ytkjnalbnhmpopaa
