/- WALKS of Want and count. -/
import Derived.Test.YtolpmaapdkhigaaDoorScan2
namespace Go.Proofs.YtolpmaapdkhigaaDoor
open Go.RowKit

set_option maxHeartbeats 400000 in
theorem want_short (fv : Fn) (x y : Array Value) (b : Nat) (s : ByteArray) (w : World) (h : AtL b s [] w) :
    Calls Tryd.prog 61 #[.pointer (some ⟨b, 0, none⟩), .func fv x y] w fun e w' => e = .panicked [{ v := .iface 66 (.agg #[.int .i64 (8)]), recovered := false }] ∧ Kept (one b) w w' := by
  go_enter Tryd.func61, Tryd.ntmps61
  go_wp2_with (go_at_call 40; refine (next_short b s w h).mono ?_; rintro e w' ⟨rfl, hk2⟩)
  exact ⟨rfl, rfl, hk2⟩

set_option maxHeartbeats 400000 in
theorem wantDigit_ok (b : Nat) (s : ByteArray) (c : UInt8) (r : List UInt8) (w : World) (h : AtL b s (c :: r) w) (hc : isDig c = true) :
    Calls Tryd.prog 61 #[.pointer (some ⟨b, 0, none⟩), .func (.func 62) #[] #[]] w fun e w' => e = .returned (.int .u8 c.toNat) ∧ AtL b s r w' ∧ Kept (one b) w w' := by
  go_enter Tryd.func61, Tryd.ntmps61
  go_wp2_with (first | (go_at_call 40; refine (next_ok b s c r w h).mono ?_; rintro e w' ⟨rfl, ha, hk2⟩) | (go_at_call 62; refine (isDigit_any _ _).mono ?_; rintro e w' ⟨rfl, rfl⟩))
  go_ret
  exact ⟨rfl, ha, hk2⟩

set_option maxHeartbeats 400000 in
theorem wantDigit_bad (b : Nat) (s : ByteArray) (c : UInt8) (r : List UInt8) (w : World) (h : AtL b s (c :: r) w) (hc : isDig c = false) :
    Calls Tryd.prog 61 #[.pointer (some ⟨b, 0, none⟩), .func (.func 62) #[] #[]] w fun e w' => e = .panicked [{ v := .iface 66 (.agg #[.int .i64 (1)]), recovered := false }] ∧ Kept (one b) w w' := by
  go_enter Tryd.func61, Tryd.ntmps61
  go_wp2_with (first | (go_at_call 40; refine (next_ok b s c r w h).mono ?_; rintro e w' ⟨rfl, ha, hk2⟩) | (go_at_call 62; refine (isDigit_any _ _).mono ?_; rintro e w' ⟨rfl, rfl⟩) | (go_at_call 43; refine (giveUp_any _ _).mono ?_; rintro e w' ⟨rfl, rfl⟩))
  exact ⟨rfl, rfl, hk2⟩

set_option maxHeartbeats 400000 in
theorem wantCount_ok (b g : Nat) (n : Int) (s : ByteArray) (c : UInt8) (r : List UInt8) (w : World) (h : AtL b s (c :: r) w) (hg : w.cell? ⟨g, 0, none⟩ = some (.int .i64 n)) (hgb : g ≠ b) (hc : mayC n c = true) :
    Calls Tryd.prog 61 #[.pointer (some ⟨b, 0, none⟩), .func (.func 63) #[] #[.pointer (some ⟨g, 0, none⟩)]] w fun e w' => e = .returned (.int .u8 c.toNat) ∧ AtL b s r w' ∧ Kept (one b) w w' := by
  go_enter Tryd.func61, Tryd.ntmps61
  go_wp2_with (first | (go_at_call 40; refine (next_ok b s c r w h).mono ?_; rintro e w' ⟨rfl, ha, hk2⟩) | (go_at_call 63; refine (countMay_any c g n _ (hk2.cell' hg hgb)).mono ?_; rintro e w' ⟨rfl, rfl⟩))
  go_ret
  exact ⟨rfl, ha, hk2⟩

set_option maxHeartbeats 400000 in
theorem wantCount_bad (b g : Nat) (n : Int) (s : ByteArray) (c : UInt8) (r : List UInt8) (w : World) (h : AtL b s (c :: r) w) (hg : w.cell? ⟨g, 0, none⟩ = some (.int .i64 n)) (hgb : g ≠ b) (hc : mayC n c = false) :
    Calls Tryd.prog 61 #[.pointer (some ⟨b, 0, none⟩), .func (.func 63) #[] #[.pointer (some ⟨g, 0, none⟩)]] w fun e w' => e = .panicked [{ v := .iface 66 (.agg #[.int .i64 (1)]), recovered := false }] ∧ Kept (one b) w w' := by
  go_enter Tryd.func61, Tryd.ntmps61
  go_wp2_with (first | (go_at_call 40; refine (next_ok b s c r w h).mono ?_; rintro e w' ⟨rfl, ha, hk2⟩) | (go_at_call 63; refine (countMay_any c g n _ (hk2.cell' hg hgb)).mono ?_; rintro e w' ⟨rfl, rfl⟩) | (go_at_call 43; refine (giveUp_any _ _).mono ?_; rintro e w' ⟨rfl, rfl⟩))
  exact ⟨rfl, rfl, hk2⟩
end Go.Proofs.YtolpmaapdkhigaaDoor
