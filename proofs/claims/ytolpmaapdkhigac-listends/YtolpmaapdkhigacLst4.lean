/- WALK of Push. -/
import Derived.Test.YtolpmaapdkhigacLst3
import Derived.Test.YtolpmaapdkhigacRChk6
import Derived.Handy
namespace Go.Proofs.Ytolpmaapdkhigac
open Go.RowKit

theorem pushLong_below (t : ByteArray) (w : World) : Calls Try.prog 23 #[.string t] w fun e w' => e = .returned (.bool (longT t)) ∧ Below w.heap.size w w' := by
  have h : decide ((60 : Int) < ((t.size : Nat) : Int)) = longT t := by unfold longT; simp; omega
  go_enter Try.func23, Try.ntmps23
  go_wp2_with fail
  go_ret
  exact ⟨rfl, Below.refl _ _⟩

set_option maxRecDepth 100000 in
set_option maxHeartbeats 1000000 in
theorem idxPushLong_any (a : Option Addr) (cap : Nat) (ts : List ByteArray) (w : World) (hs : TextsAt w a ts) (hn : ts.length ≤ 2000000) :
    Calls Try.prog 38 #[.slice a ts.length cap, .func (.func 23) #[] #[]] w fun e w' => (∃ n : Int, e = .returned (.int .i64 n) ∧ (decide (0 ≤ n) = ts.any longT)) ∧ Below w.heap.size w w' := by
  have HS := hide hs
  clear hs
  go_enter Try.func38, Try.ntmps38
  go_wp2_with fail
  go_loopw [8] (fun i wr => ∃ k : Nat, k ≤ ts.length ∧ i = .int .i64 k ∧ Below w.heap.size w wr ∧ Hid ((ts.take k).any longT = false)) (fun i _ => ts.length - (intOf i).toNat)
  case atStart => exact ⟨0, Nat.zero_le _, rfl, Below.refl _ _, by simp [Hid]⟩
  case round =>
    obtain ⟨k, hk, rfl, hb, HA⟩ := hrel
    by_cases hlt : k < ts.length
    · obtain ⟨g, o, rfl, hcs⟩ : ∃ g o, a = some ⟨g, o, none⟩ ∧ ∀ i (h : i < ts.length), w.cell? ⟨g, o + i, none⟩ = some (.string ts[i]) := by
        rcases HS.out with h | h
        · subst h; simp at hlt
        · exact h
      have HB : Hid (∀ g o v, w.cell? ⟨g, o, none⟩ = some v → wr.cell? ⟨g, o, none⟩ = some v) := fun g o _ hv => (hb.cell (p := ⟨g, o, none⟩) (World.block_lt_of_cell? _ _ hv)).trans hv
      have d0 : wr.cell? ⟨g, o + k, none⟩ = some (.string ts[k]) := HB.out _ _ _ (hcs k hlt)
      have HT : Hid ((ts.take (k + 1)).any longT = ((ts.take k).any longT || longT ts[k])) := by
        rw [Hid, List.take_succ_eq_append_getElem hlt, List.any_append]
        simp
      have HF : Hid (longT ts[k] = true → ts.any longT = true) := fun hx => List.any_eq_true.mpr ⟨ts[k], List.getElem_mem hlt, hx⟩
      clear hcs HS HB
      go_wp2_with fail
      refine (pushLong_below ts[k] wr).mono ?_
      rintro e w1 ⟨rfl, hb1⟩
      have hb2 : Below w.heap.size w w1 := hb.trans (hb1.mono hb.size)
      cases hx : longT ts[k] with
      | true =>
        have HY := hide (HF.out hx)
        clear HF HT hx
        go_wp2_with fail
        go_ret
        exact ⟨⟨_, rfl, by rw [HY.out]; simp⟩, hb2⟩
      | false =>
        have HY : Hid ((ts.take (k + 1)).any longT = false) := by rw [Hid, HT.out, HA.out, hx]; rfl
        clear HF HT hx
        go_wp2_with fail
        go_roundw
        case rel => exact ⟨k + 1, by omega, by go_num, hb2, HY⟩
        case measure => simp [intOf]; omega
    · have hkk : k = ts.length := by omega
      subst hkk
      have HY : Hid (ts.any longT = false) := by have := HA.out; rw [List.take_length] at this; exact this
      go_wp2_with fail
      go_ret
      exact ⟨⟨-1, rfl, by rw [HY.out]; rfl⟩, hb⟩
theorem containsPushLong_any (a : Option Addr) (cap : Nat) (ts : List ByteArray) (w : World) (hs : TextsAt w a ts) (hn : ts.length ≤ 2000000) :
    Calls Try.prog 22 #[.slice a ts.length cap, .func (.func 23) #[] #[]] w fun e w' => e = .returned (.bool (ts.any longT)) ∧ Below w.heap.size w w' := by
  have HI := hide (idxPushLong_any a cap ts w hs hn)
  clear hs
  go_enter Try.func22, Try.ntmps22
  go_wp2_with fail
  refine HI.out.mono ?_
  rintro e w1 ⟨⟨n, rfl, hd⟩, hb⟩
  have HD := hide hd
  clear hd
  go_wp2_with fail
  go_ret
  exact ⟨by rw [← HD.out]; rfl, hb⟩

/-- an item that is right as a list -/
theorem asI_list {x : Itm} (h : asI x 2 = 0) : x = lstI x.l ∧ x.l.length ≤ 24 ∧ x.l.any longT = false := by
  obtain ⟨k, t, l, p, s⟩ := x
  unfold asI at h
  split at h
  · rename_i hn
    simp only [Itm.isNone, decide_eq_true_eq] at hn
    obtain ⟨rfl, ht, rfl, rfl, rfl⟩ := hn
    obtain rfl := empty_bytes ht
    exact ⟨rfl, by simp, rfl⟩
  · split at h
    · rename_i h1; exact absurd h h1
    · rename_i h1
      split at h
      · cases h
      · rename_i hk
        have hk1 : k = 2 := by
          rcases Int.lt_trichotomy k 2 with h' | h' | h'
          · exact absurd (show k ≠ 2 by omega) hk
          · exact h'
          · exact absurd (show k ≠ 2 by omega) hk
        subst hk1
        have h2 : chkI ⟨2, t, l, p, s⟩ = 0 := by
          rcases Classical.em (chkI ⟨2, t, l, p, s⟩ = 0) with h' | h'
          · exact h'
          · exact absurd h' h1
        unfold chkI at h2
        rw [if_neg (show ¬ ((2 : Int) < 1 ∨ 5 < (2 : Int)) by decide)] at h2
        split at h2
        · cases h2
        · rename_i ho
          rw [if_pos rfl] at h2
          simp only [otherI, decide_eq_true_eq] at ho
          have ht : t.toList = [] := by
            rcases Classical.em (t.toList = []) with h' | h'
            · exact h'
            · exact absurd (Or.inl ⟨by decide, h'⟩) ho
          obtain rfl := empty_bytes ht
          obtain rfl : p = [] := List.eq_nil_of_length_eq_zero (by by_cases hx : 0 < p.length; exact absurd (Or.inr (Or.inr (Or.inl ⟨by decide, hx⟩))) ho; omega)
          obtain rfl : s = [] := List.eq_nil_of_length_eq_zero (by by_cases hx : 0 < s.length; exact absurd (Or.inr (Or.inr (Or.inr ⟨by decide, hx⟩))) ho; omega)
          have hp := sizeT_pos h2
          refine ⟨?_, sizeT_small h2, sizeT_short h2⟩
          simp only [lstI]
          rw [if_neg (fun e => by rw [e] at hp; simp at hp)]
def pushE (x : Itm) (l : List ByteArray) : Int := if asI x 2 ≠ 0 then asI x 2 else if 24 < x.l.length + l.length ∨ l.any longT = true then 2 else if l = [] then 1 else 0
def pushI (x : Itm) (left : Bool) (l : List ByteArray) : Itm := if pushE x l = 0 then lstI (pushL x.l left l) else Itm.none
def pushN (x : Itm) (l : List ByteArray) : Int := if pushE x l = 0 then ((x.l.length : Nat) : Int) + ((l.length : Nat) : Int) else 0
end Go.Proofs.Ytolpmaapdkhigac
