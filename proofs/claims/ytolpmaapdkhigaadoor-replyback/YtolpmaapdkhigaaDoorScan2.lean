/- WALKS of Take, Want and the tests of package feed. -/
import Derived.Test.YtolpmaapdkhigaaDoorScan1
import Derived.Test.YtolpmaapdkhigaaDoorShelf
import Derived.Deep.RegionWith
namespace Go.Proofs.YtolpmaapdkhigaaDoor
open Go.RowKit

set_option maxHeartbeats 400000 in
theorem clone_any (s : ByteArray) (w : World) (hs : s.size ≤ 281474976710656) :
    Calls Tryd.prog 35 #[.string s] w fun e w' => e = .returned (.string s) ∧ Below w.heap.size w w' := by
  go_enter Tryd.func35, Tryd.ntmps35
  go_wp2_with (go_at_call 54; refine (Tryd.stringslite_Clone s _ hs).mono ?_; rintro e w' ⟨rfl, hb⟩)
  go_ret
  exact ⟨rfl, hb⟩

set_option maxHeartbeats 400000 in
theorem take_err (b : Nat) (s : ByteArray) (l : List UInt8) (n : Nat) (w : World) (h : AtL b s l w) (hn : l.length < n) (hm : n ≤ 1000000000) :
    Calls Tryd.prog 53 #[.pointer (some ⟨b, 0, none⟩), .int .i64 n] w fun e w' => e = .panicked [{ v := .iface 66 (.agg #[.int .i64 (8)]), recovered := false }] ∧ Kept (one b) w w' := by
  have hl := h.len
  obtain ⟨h0, h1, h2, h3, h4⟩ := h.1
  unfold maxLen at h4
  have e1 : s.size ≤ (s.size - l.length) + l.length := by omega
  have e2 : (s.size - l.length) + l.length ≤ s.size := by omega
  generalize s.size - l.length = k at *
  go_enter Tryd.func53, Tryd.ntmps53
  go_wp2
  go_quiet (fail)
  go_wp2_with (go_at_call 43; refine (giveUp_any _ _).mono ?_; rintro e w' ⟨rfl, rfl⟩)
  exact ⟨rfl, rfl, (Kept.refl _ _).drewN nq⟩

set_option maxRecDepth 100000 in
set_option maxHeartbeats 400000 in
theorem take_ok (b : Nat) (s : ByteArray) (l : List UInt8) (n : Nat) (w : World) (h : AtL b s l w) (hn : n ≤ l.length) (hs : s.size ≤ 281474976710656) :
    Calls Tryd.prog 53 #[.pointer (some ⟨b, 0, none⟩), .int .i64 n] w fun e w' => e = .returned (.string ⟨(l.take n).toArray⟩) ∧ AtL b s (l.drop n) w' ∧ Kept (one b) w w' := by
  have hl := h.len
  obtain ⟨h0, h1, h2, h3, h4⟩ := h.1
  unfold maxLen at h4
  have hsl : ∀ W, (Instr.slice 9 (.string s) (some (.int .i64 (s.size - l.length : Nat))) (some (.int .i64 ((s.size - l.length : Nat) + n))) none).run Tryd.prog W = .ok (.string ⟨(l.take n).toArray⟩) W := by
    intro W
    rw [run_slice_string (P := Tryd.prog) W 9 s .i64 .i64 _ _ Tryd.underlying9 (by omega) (by omega) (by omega)]
    have e3 : (((s.size - l.length : Nat) : Int) + n).toNat = s.size - l.length + n := by omega
    rw [e3, Int.toNat_natCast, extract_suffix h.2]
  have hset : At b s (s.size - (l.drop n).length) (w.setCell ⟨b, 1, none⟩ (.int .i64 ((s.size - l.length : Nat) + n))) := by
    have e3 : s.size - (l.drop n).length = s.size - l.length + n := by rw [List.length_drop]; omega
    rw [e3]
    have := h.1.set (j := s.size - l.length + n) (by omega)
    simpa using this
  have hsz : (ByteArray.mk (l.take n).toArray).size ≤ 281474976710656 := by rw [size_mk, List.length_take]; omega
  have hsuf : l.drop n <:+ s.data.toList := (List.drop_suffix n l).trans h.2
  have HSET := hide hset
  have HZ := hide hsz
  have e1 : s.size ≤ (s.size - l.length) + l.length := by omega
  have e2 : (s.size - l.length) + l.length ≤ s.size := by omega
  clear hset hsz
  generalize s.size - l.length = k at *
  generalize ByteArray.mk (l.take n).toArray = x at *
  go_enter Tryd.func53, Tryd.ntmps53
  go_wp2
  go_quiet (fail)
  go_wp2
  go_region_with (go_at_call 35; refine (clone_any _ _ (unhide HZ)).mono ?_; rintro e w' ⟨rfl, hb⟩)
  all_goals
    go_wp2
    go_ret
    have hk0 := Kept.of_below hb (fun _ => False)
    have hk1 : Kept (fun _ => False) (w.setCell ⟨b, 1, none⟩ (.int .i64 ((k : Int) + n))) w' := by
      refine Kept.trans ?_ hk0
      exact ⟨rfl, rfl, rfl, Nat.le_refl _, fun _ _ _ => rfl⟩
    refine ⟨rfl, ⟨(unhide HSET).kept hk1 (fun x => x), hsuf⟩, ?_⟩
    exact ((Kept.refl _ _).set1 _ _).trans (hk1.mono (fun _ _ x => x.elim))

theorem byte_cases (c : UInt8) : 0 ≤ (c.toNat : Int) ∧ (c.toNat : Int) ≤ 255 := by have := c.toNat_lt; omega

/-- A digit, as a plain function. -/
def isDig (c : UInt8) : Bool := decide (48 ≤ c.toNat ∧ c.toNat ≤ 57)

set_option maxHeartbeats 400000 in
theorem isDigit_any (c : UInt8) (w : World) :
    Calls Tryd.prog 62 #[.int .u8 c.toNat] w fun e w' => e = .returned (.bool (isDig c)) ∧ w' = w := by
  by_cases h1 : 48 ≤ (c.toNat : Int)
  · by_cases h2 : (c.toNat : Int) ≤ 57
    · have hd : isDig c = true := by simp [isDig]; omega
      rw [hd]
      go_enter Tryd.func62, Tryd.ntmps62
      go_wp2
      go_ret
      exact ⟨rfl, rfl⟩
    · have hd : isDig c = false := by simp [isDig]; omega
      rw [hd]
      go_enter Tryd.func62, Tryd.ntmps62
      go_wp2
      go_ret
      exact ⟨rfl, rfl⟩
  · have hd : isDig c = false := by simp [isDig]; omega
    rw [hd]
    go_enter Tryd.func62, Tryd.ntmps62
    go_wp2
    go_ret
    exact ⟨rfl, rfl⟩

/-- What may stand behind the first digit, as a plain function. -/
def mayC (n : Int) (c : UInt8) : Bool := c == 13 || decide (0 < n) && isDig c

set_option maxHeartbeats 400000 in
theorem countMay_any (c : UInt8) (g : Nat) (n : Int) (w : World) (hg : w.cell? ⟨g, 0, none⟩ = some (.int .i64 n)) :
    Calls Tryd.prog 63 #[.int .u8 c.toNat, .pointer (some ⟨g, 0, none⟩)] w fun e w' => e = .returned (.bool (mayC n c)) ∧ w' = w := by
  by_cases h1 : c = 13
  · subst h1
    have hd : mayC n 13 = true := by simp [mayC]
    rw [hd]
    go_enter Tryd.func63, Tryd.ntmps63
    go_wp2_with (go_at_call 62; refine (isDigit_any _ _).mono ?_; rintro e w' ⟨rfl, rfl⟩)
    go_ret
    exact ⟨rfl, rfl⟩
  · have h13 : ((c.toNat : Int) == 13) = false := by
      have : c.toNat ≠ 13 := fun e => h1 (UInt8.toNat_inj.1 e)
      simp; omega
    by_cases h2 : 0 < n
    · have hd : mayC n c = isDig c := by simp [mayC, h1, h2]
      rw [hd]
      clear hd h1
      go_enter Tryd.func63, Tryd.ntmps63
      go_wp2_with (go_at_call 62; refine (isDigit_any _ _).mono ?_; rintro e w' ⟨rfl, rfl⟩)
      go_ret
      exact ⟨rfl, rfl⟩
    · have hd : mayC n c = false := by simp [mayC, h1, h2]
      rw [hd]
      clear hd h1
      go_enter Tryd.func63, Tryd.ntmps63
      go_wp2_with (go_at_call 62; refine (isDigit_any _ _).mono ?_; rintro e w' ⟨rfl, rfl⟩)
      go_ret
      exact ⟨rfl, rfl⟩
end Go.Proofs.YtolpmaapdkhigaaDoor
