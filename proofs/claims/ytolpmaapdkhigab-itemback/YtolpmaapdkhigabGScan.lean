/- (patterns, items) WALKS of the small functions of package scan. -/
import Derived.Test.YtolpmaapdkhigabProg
import Derived.Test.YtolpmaapdkhigabBase
import Derived.BigQuiet
import Derived.WalkLawsBesides
namespace Go.Proofs.Ytolpmaapdkhigab
open Go.RowKit

set_option maxHeartbeats 400000 in
theorem done_any (b : Nat) (s : ByteArray) (k : Nat) (w : World) (h : At b s k w) :
    Calls Try.prog 45 #[.pointer (some ⟨b, 0, none⟩)] w fun e w' => e = .returned (.bool ((k : Int) == s.size)) ∧ ∃ n, w' = w.drewN n := by
  obtain ⟨h0, h1, h2, h3, h4⟩ := h
  go_enter Try.func45, Try.ntmps45
  go_wp2
  go_quiet (fail)
  go_wp2
  go_ret
  exact ⟨rfl, _, rfl⟩

set_option maxHeartbeats 400000 in
theorem giveUp_any (n : Int) (w : World) :
    Calls Try.prog 61 #[.int .i64 n] w fun e w' => e = .panicked [{ v := .iface 92 (.agg #[.int .i64 (n)]), recovered := false }] ∧ w' = w := by
  go_enter Try.func61, Try.ntmps61
  go_wp2
  exact ⟨rfl, rfl, rfl⟩

set_option maxHeartbeats 400000 in
theorem next_at (b : Nat) (s : ByteArray) (k : Nat) (w : World) (h : At b s k w) (hk : k < s.size) :
    Calls Try.prog 51 #[.pointer (some ⟨b, 0, none⟩)] w fun e w' => e = .returned (.int .u8 s[k].toNat) ∧ At b s (k + 1) w' ∧ Kept (one b) w w' := by
  have hA := h
  obtain ⟨h0, h1, h2, h3, h4⟩ := h
  have h5 : ((k : Int) == s.size) = false := by simp; omega
  unfold maxLen at h4
  go_enter Try.func51, Try.ntmps51
  go_wp2_with (go_at_call 45; refine (done_any _ _ _ _ hA).mono ?_; rintro e w' ⟨rfl, n, rfl⟩)
  go_quiet (fail)
  go_wp2
  go_ret
  refine ⟨rfl, ?_, ?_⟩
  · have := (hA.drewN n).set (j := k + 1) (by omega)
    simpa using this.drewN nq
  · exact (((Kept.refl _ _).drewN n).set1 _ _).drewN nq

theorem next_ok (b : Nat) (s : ByteArray) (c : UInt8) (r : List UInt8) (w : World) (h : AtL b s (c :: r) w) :
    Calls Try.prog 51 #[.pointer (some ⟨b, 0, none⟩)] w fun e w' => e = .returned (.int .u8 c.toNat) ∧ AtL b s r w' ∧ Kept (one b) w w' := by
  have hl := h.len
  simp only [List.length_cons] at hl
  have hk : s.size - (r.length + 1) < s.size := by omega
  refine (next_at b s _ w h.1 hk).mono ?_
  rintro e w' ⟨rfl, ha, hkp⟩
  refine ⟨?_, ⟨?_, suffix_cons h.2⟩, hkp⟩
  · have := get_of_suffix h.2 hk
    simp only [List.length_cons]
    rw [this]
  · have e : s.size - (c :: r).length + 1 = s.size - r.length := by simp only [List.length_cons]; omega
    rw [e] at ha
    exact ha

set_option maxHeartbeats 400000 in
theorem next_short (b : Nat) (s : ByteArray) (w : World) (h : AtL b s [] w) :
    Calls Try.prog 51 #[.pointer (some ⟨b, 0, none⟩)] w fun e w' => e = .panicked [{ v := .iface 92 (.agg #[.int .i64 (8)]), recovered := false }] ∧ Kept (one b) w w' := by
  have hA : At b s s.size w := h.1
  obtain ⟨h0, h1, h2, h3, h4⟩ := hA
  have h5 : ((s.size : Int) == s.size) = true := by simp
  unfold maxLen at h4
  go_enter Try.func51, Try.ntmps51
  go_wp2_with (first | (go_at_call 45; refine (done_any _ _ _ _ h.1).mono ?_; rintro e w' ⟨rfl, n, rfl⟩) | (go_at_call 61; refine (giveUp_any _ _).mono ?_; rintro e w' ⟨rfl, rfl⟩))
  exact ⟨rfl, rfl, (Kept.refl _ _).drewN n⟩

theorem done_nil (b : Nat) (s : ByteArray) (w : World) (h : AtL b s [] w) :
    Calls Try.prog 45 #[.pointer (some ⟨b, 0, none⟩)] w fun e w' => e = .returned (.bool true) ∧ ∃ n, w' = w.drewN n := by
  refine (done_any b s _ w h.1).mono ?_
  rintro e w' ⟨rfl, n, rfl⟩
  exact ⟨by simp, n, rfl⟩
theorem done_cons (b : Nat) (s : ByteArray) (c : UInt8) (l : List UInt8) (w : World) (h : AtL b s (c :: l) w) :
    Calls Try.prog 45 #[.pointer (some ⟨b, 0, none⟩)] w fun e w' => e = .returned (.bool false) ∧ ∃ n, w' = w.drewN n := by
  have hl := h.len
  refine (done_any b s _ w h.1).mono ?_
  rintro e w' ⟨rfl, n, rfl⟩
  have hb : (((s.size - (c :: l).length : Nat) : Int) == s.size) = false := by
    simp only [List.length_cons] at hl ⊢
    simp
    omega
  exact ⟨by rw [hb], n, rfl⟩
end Go.Proofs.Ytolpmaapdkhigab
