/- WALKS of the function literals of patterns, and of the looks over spans. -/
import Derived.Test.YtkjnalbnhmpopaaGScanM
import Derived.Test.YtkjnalbnhmpopaaGPlain
import Derived.Deep.RegionHeld3
import Derived.BigQuiet
import Derived.Handy
namespace Go.Proofs.Ytkjnalbnhmpopaa
open Go.RowKit

theorem fnAny_any (c : Int) (w : World) : Calls Try.prog 91 #[.int .u8 c] w fun e w' => e = .returned (.bool true) ∧ w' = w := by
  go_enter Try.func91, Try.ntmps91
  go_wp2
  go_ret
  exact ⟨rfl, rfl⟩
theorem u8_beq (c d : UInt8) : (((c.toNat : Nat) : Int) == ((d.toNat : Nat) : Int)) = (c == d) := by
  rw [Bool.eq_iff_iff, beq_iff_eq, beq_iff_eq]
  constructor
  · intro h; exact UInt8.toNat_inj.mp (by omega)
  · rintro rfl; rfl
theorem fnLit_any (b : Nat) (c d : UInt8) (w : World) (h : w.cell? ⟨b, 0, none⟩ = some (.int .u8 d.toNat)) :
    Calls Try.prog 93 #[.int .u8 c.toNat, .pointer (some ⟨b, 0, none⟩)] w fun e w' => e = .returned (.bool (c == d)) ∧ w' = w := by
  rw [← u8_beq]
  go_enter Try.func93, Try.ntmps93
  go_wp2
  go_ret
  exact ⟨rfl, rfl⟩
theorem fnGeq_any (b : Nat) (c d : UInt8) (w : World) (h : w.cell? ⟨b, 0, none⟩ = some (.int .u8 d.toNat)) :
    Calls Try.prog 129 #[.int .u8 c.toNat, .pointer (some ⟨b, 0, none⟩)] w fun e w' => e = .returned (.bool (decide (d.toNat ≤ c.toNat))) ∧ w' = w := by
  have e1 : decide (((d.toNat : Nat) : Int) ≤ ((c.toNat : Nat) : Int)) = decide (d.toNat ≤ c.toNat) := by simp
  go_enter Try.func129, Try.ntmps129
  go_wp2
  go_ret
  exact ⟨by simp, rfl⟩
theorem fnIn_any (b : Nat) (c : UInt8) (x : UInt8 × UInt8) (w : World) (h : w.cell? ⟨b, 0, none⟩ = some (.int .u8 c.toNat)) :
    Calls Try.prog 113 #[.agg #[.int .u8 x.1.toNat, .int .u8 x.2.toNat], .pointer (some ⟨b, 0, none⟩)] w fun e w' => e = .returned (.bool (inSpan c x)) ∧ Below w.heap.size w w' := by
  obtain ⟨x1, x2⟩ := x
  have hk : ∀ o, (w.alloc o).cell? ⟨b, 0, none⟩ = some (.int .u8 c.toNat) := fun o => ((Kept.refl (fun _ => False) w).alloc o).cell' h (fun e => e)
  by_cases h1 : x1.toNat ≤ c.toNat
  · by_cases h2 : c.toNat ≤ x2.toNat
    · have hv : inSpan c (x1, x2) = true := by simp [inSpan, h1, h2]
      rw [hv]
      go_enter Try.func113, Try.ntmps113
      go_wp2
      go_ret
      exact ⟨rfl, (Below.refl _ _).alloc (Nat.le_refl _) _⟩
    · have hv : inSpan c (x1, x2) = false := by simp [inSpan, h2]
      rw [hv]
      go_enter Try.func113, Try.ntmps113
      go_wp2
      go_ret
      exact ⟨rfl, (Below.refl _ _).alloc (Nat.le_refl _) _⟩
  · have hv : inSpan c (x1, x2) = false := by simp [inSpan, h1]
    rw [hv]
    go_enter Try.func113, Try.ntmps113
    go_wp2
    go_ret
    exact ⟨rfl, (Below.refl _ _).alloc (Nat.le_refl _) _⟩

def spanRow (sp : List (UInt8 × UInt8)) : List Value := (sp.map fun x => [Value.int .u8 x.1.toNat, .int .u8 x.2.toNat]).flatten
theorem spanRow_snoc (sp : List (UInt8 × UInt8)) (x : UInt8 × UInt8) : spanRow (sp ++ [x]) = spanRow sp ++ [.int .u8 x.1.toNat, .int .u8 x.2.toNat] := by simp [spanRow]
theorem spanRow_get : ∀ (l : List (UInt8 × UInt8)) (i : Nat) (h : i < l.length), (spanRow l)[i * 2]? = some (.int .u8 l[i].1.toNat) ∧ (spanRow l)[i * 2 + 1]? = some (.int .u8 l[i].2.toNat)
  | [], i, h => by simp at h
  | s :: l, 0, h => by simp [spanRow]
  | s :: l, i + 1, h => by
    have := spanRow_get l i (by simpa using h)
    simp only [spanRow, List.map_cons, List.flatten_cons] at this ⊢
    rw [List.getElem?_append_right (by simp; omega), List.getElem?_append_right (by simp; omega)]
    rw [show (i + 1) * 2 - [Value.int .u8 s.1.toNat, .int .u8 s.2.toNat].length = i * 2 by simp; omega, show (i + 1) * 2 + 1 - [Value.int .u8 s.1.toNat, .int .u8 s.2.toNat].length = i * 2 + 1 by simp; omega]
    simpa using this
/-- spans that lie in memory -/
def SpansAt (w : World) (a : Option Addr) (sp : List (UInt8 × UInt8)) : Prop :=
  sp = [] ∨ ∃ g, a = some ⟨g, 0, none⟩ ∧ ∀ i (h : i < sp.length), w.cell? ⟨g, i * 2, none⟩ = some (.int .u8 sp[i].1.toNat) ∧ w.cell? ⟨g, i * 2 + 1, none⟩ = some (.int .u8 sp[i].2.toNat)

set_option maxRecDepth 100000 in
set_option maxHeartbeats 1000000 in
theorem idxSpan_any (b : Nat) (c : UInt8) (a : Option Addr) (cap : Nat) (sp : List (UInt8 × UInt8)) (w : World) (h : w.cell? ⟨b, 0, none⟩ = some (.int .u8 c.toNat)) (hs : SpansAt w a sp) (hn : sp.length ≤ 1000000) :
    Calls Try.prog 130 #[.slice a sp.length cap, .func (.func 113) #[] #[.pointer (some ⟨b, 0, none⟩)]] w fun e w' => (∃ n : Int, e = .returned (.int .i64 n) ∧ (decide (0 ≤ n) = sp.any (inSpan c))) ∧ Below w.heap.size w w' := by
  have hbl : b < w.heap.size := World.block_lt_of_cell? _ _ h
  have HH := hide h
  have HS := hide hs
  clear h hs
  go_enter Try.func130, Try.ntmps130
  go_wp2_with fail
  go_loopw [8] (fun i wr => ∃ k : Nat, k ≤ sp.length ∧ i = .int .i64 k ∧ Below w.heap.size w wr ∧ Hid ((sp.take k).any (inSpan c) = false)) (fun i _ => sp.length - (intOf i).toNat)
  case atStart => exact ⟨0, Nat.zero_le _, rfl, Below.refl _ _, by simp [Hid]⟩
  case round =>
    obtain ⟨k, hk, rfl, hb, HA⟩ := hrel
    by_cases hlt : k < sp.length
    · obtain ⟨g, rfl, hcs⟩ : ∃ g, a = some ⟨g, 0, none⟩ ∧ ∀ i (h : i < sp.length), w.cell? ⟨g, i * 2, none⟩ = some (.int .u8 sp[i].1.toNat) ∧ w.cell? ⟨g, i * 2 + 1, none⟩ = some (.int .u8 sp[i].2.toNat) := by
        rcases HS.out with h | h
        · subst h; simp at hlt
        · exact h
      obtain ⟨e0, e1⟩ := hcs k hlt
      have hgl : g < w.heap.size := World.block_lt_of_cell? _ _ e0
      have d0 := (hb.cell (p := ⟨g, k * 2, none⟩) hgl).trans e0
      have d1 := (hb.cell (p := ⟨g, k * 2 + 1, none⟩) hgl).trans e1
      have HC := hide ((hb.cell (p := ⟨b, 0, none⟩) hbl).trans HH.out)
      have HT : Hid ((sp.take (k + 1)).any (inSpan c) = ((sp.take k).any (inSpan c) || inSpan c sp[k])) := by
        rw [Hid, List.take_succ_eq_append_getElem hlt, List.any_append]
        simp
      have HF : Hid (inSpan c sp[k] = true → sp.any (inSpan c) = true) := fun hx => List.any_eq_true.mpr ⟨sp[k], List.getElem_mem hlt, hx⟩
      clear hcs e0 e1 HS
      go_wp2_with fail
      refine (fnIn_any b c sp[k] wr HC.out).mono ?_
      rintro e w1 ⟨rfl, hb1⟩
      have hb2 : Below w.heap.size w w1 := hb.trans (hb1.mono hb.size)
      cases hx : inSpan c sp[k] with
      | true =>
        have HY := hide (HF.out hx)
        clear HF HT hx
        go_wp2_with fail
        go_ret
        exact ⟨⟨_, rfl, by rw [HY.out]; simp⟩, hb2⟩
      | false =>
        have HY : Hid ((sp.take (k + 1)).any (inSpan c) = false) := by rw [Hid, HT.out, HA.out, hx]; rfl
        clear HF HT hx
        go_wp2_with fail
        go_roundw
        case rel => exact ⟨k + 1, by omega, by go_num, hb2, HY⟩
        case measure => simp [intOf]; omega
    · have hkk : k = sp.length := by omega
      subst hkk
      have HY : Hid (sp.any (inSpan c) = false) := by have := HA.out; rw [List.take_length] at this; exact this
      go_wp2_with fail
      go_ret
      exact ⟨⟨-1, rfl, by rw [HY.out]; rfl⟩, hb⟩
theorem containsSpan_any (b : Nat) (c : UInt8) (a : Option Addr) (cap : Nat) (sp : List (UInt8 × UInt8)) (w : World) (h : w.cell? ⟨b, 0, none⟩ = some (.int .u8 c.toNat)) (hs : SpansAt w a sp) (hn : sp.length ≤ 1000000) :
    Calls Try.prog 112 #[.slice a sp.length cap, .func (.func 113) #[] #[.pointer (some ⟨b, 0, none⟩)]] w fun e w' => e = .returned (.bool (sp.any (inSpan c))) ∧ Below w.heap.size w w' := by
  have HI := hide (idxSpan_any b c a cap sp w h hs hn)
  clear h hs
  go_enter Try.func112, Try.ntmps112
  go_wp2_with fail
  refine HI.out.mono ?_
  rintro e w1 ⟨⟨n, rfl, hd⟩, hb⟩
  have HD := hide hd
  clear hd
  go_wp2_with fail
  go_ret
  exact ⟨by rw [← HD.out]; rfl, hb⟩
end Go.Proofs.Ytkjnalbnhmpopaa
