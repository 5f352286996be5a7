/- WALKS of a bracket's function literal, and of what is left. -/
import Derived.Test.YtkjnalbnhmpopaaGFn
import Derived.Deep.RegionLaw
import Derived.Handy
namespace Go.Proofs.Ytkjnalbnhmpopaa
open Go.RowKit

theorem SpansAt.below {w w' : World} {a : Option Addr} {sp : List (UInt8 × UInt8)} (h : SpansAt w a sp) (hb : Below w.heap.size w w') : SpansAt w' a sp := by
  rcases h with h | ⟨g, ha, hc⟩
  · exact .inl h
  · refine .inr ⟨g, ha, fun i hi => ?_⟩
    obtain ⟨c0, c1⟩ := hc i hi
    exact ⟨(hb.cell (p := ⟨g, i * 2, none⟩) (World.block_lt_of_cell? _ _ c0)).trans c0, (hb.cell (p := ⟨g, i * 2 + 1, none⟩) (World.block_lt_of_cell? _ _ c1)).trans c1⟩
theorem spansAt_of_row {w : World} {base : Nat} {a : Option Addr} {cap T : Nat} {sp : List (UInt8 × UInt8)} (h : w.ownsRow base T 2 (.slice a sp.length cap) sp.length (spanRow sp)) : SpansAt w a sp := by
  rcases h.2 with ⟨hv, hz⟩ | ⟨g, cap', cur, hv, _⟩
  · exact .inl (List.length_eq_zero_iff.1 hz)
  · simp at hv
    obtain ⟨rfl, rfl⟩ := hv
    have hl : (spanRow sp).length = sp.length * 2 := h.1
    refine .inr ⟨g, rfl, fun i hi => ?_⟩
    obtain ⟨g0, g1⟩ := spanRow_get sp i hi
    exact ⟨(h.cellAt (i * 2) (by omega)).trans g0, (h.cellAt (i * 2 + 1) (by omega)).trans g1⟩

set_option maxRecDepth 100000 in
set_option maxHeartbeats 1000000 in
theorem fnCls_any (b1 b2 : Nat) (c : UInt8) (neg : Bool) (a : Option Addr) (cap : Nat) (sp : List (UInt8 × UInt8)) (w : World) (h1 : w.cell? ⟨b1, 0, none⟩ = some (.bool neg)) (h2 : w.cell? ⟨b2, 0, none⟩ = some (.slice a sp.length cap)) (hs : SpansAt w a sp) (hn : sp.length ≤ 1000000) :
    Calls Try.prog 111 #[.int .u8 c.toNat, .pointer (some ⟨b1, 0, none⟩), .pointer (some ⟨b2, 0, none⟩)] w fun e w' => e = .returned (.bool (neg != sp.any (inSpan c))) ∧ Below w.heap.size w w' := by
  have hmf : ∀ (fn : Fn) (first cap : Array Value) (w : World), (Instr.makeFunc fn first cap).run Try.prog w = .ok (.func fn first cap) w := fun _ _ _ _ => rfl
  have hk : ∀ o, Kept (fun _ => False) w (w.alloc o) := fun o => (Kept.refl _ w).alloc o
  have k1 := fun o => (hk o).cell' h1 (fun e => e)
  have k2 := fun o => (hk o).cell' h2 (fun e => e)
  have l1 : b1 < w.heap.size := World.block_lt_of_cell? _ _ h1
  have HC : Hid (Calls Try.prog 112 #[.slice a sp.length cap, .func (.func 113) #[] #[.pointer (some ⟨w.heap.size, 0, none⟩)]] ((w.alloc (.cells #[.int .u8 c.toNat] 5)).drewN 1) fun e w' => e = .returned (.bool (sp.any (inSpan c))) ∧ Below (w.alloc (.cells #[.int .u8 c.toNat] 5)).heap.size ((w.alloc (.cells #[.int .u8 c.toNat] 5)).drewN 1) w') :=
    containsSpan_any w.heap.size c a cap sp _ (by simp [go_sem]) ((hs.below ((Below.refl _ w).alloc (Nat.le_refl _) _)).below ⟨rfl, rfl, rfl, Nat.le_refl _, fun _ _ => rfl⟩) hn
  generalize sp.any (inSpan c) = R at *
  generalize sp.length = len at *
  clear hs hn h1 h2 hk
  go_enter Try.func111, Try.ntmps111
  go_wp2_with fail
  go_region_law (go_simp; refine HC.out.mono ?_; rintro e w1 ⟨rfl, hb1⟩; have hc1 : w1.cell? ⟨b1, 0, none⟩ = some (.bool neg) := (hb1.cell (p := ⟨b1, 0, none⟩) (by simp; omega)).trans (k1 _))
  all_goals go_wp2
  all_goals go_ret
  all_goals exact ⟨rfl, (((Below.refl _ w).alloc (Nat.le_refl _) _).drew).trans (hb1.mono (by simp))⟩

set_option maxRecDepth 100000 in
set_option maxHeartbeats 1000000 in
theorem left_any (b : Nat) (s : ByteArray) (l : List UInt8) (w : World) (h : AtL b s l w) :
    Calls Try.prog 109 #[.pointer (some ⟨b, 0, none⟩)] w fun e w' => e = .returned (.string ⟨l.toArray⟩) ∧ ∃ n, w' = w.drewN n := by
  have hl := h.len
  obtain ⟨h0, h1, h2, h3, h4⟩ := h.1
  have hsl : ∀ W : World, (Instr.slice 9 (.string s) (some (.int .i64 ((s.size - l.length : Nat) : Int))) none none).run Try.prog W = .ok (.string ⟨l.toArray⟩) W := fun W => by
    rw [run_slice_string_from_if (P := Try.prog) W 9 s .i64 _ Try.underlying9, if_pos (by omega), Int.toNat_natCast, extract_suffix_all h.2]
  clear h
  generalize s.size - l.length = p at *
  generalize (⟨l.toArray⟩ : ByteArray) = L at *
  go_enter Try.func109, Try.ntmps109
  go_wp2_with fail
  go_quiet (fail)
  go_wp2_with fail
  go_ret
  exact ⟨rfl, _, rfl⟩
end Go.Proofs.Ytkjnalbnhmpopaa
