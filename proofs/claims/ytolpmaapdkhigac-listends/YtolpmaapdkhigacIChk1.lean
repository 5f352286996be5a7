/- WALKS of the item's checks: how many, and how long (lists of texts). -/
import Derived.Test.YtolpmaapdkhigacChecked
import Derived.Test.YtolpmaapdkhigacBase
import Derived.Test.YtolpmaapdkhigacIDef
import Derived.Handy
namespace Go.Proofs.Ytolpmaapdkhigac
open Go.RowKit

theorem isLong_any (t : ByteArray) (w : World) : Calls Try.prog 52 #[.string t] w fun e w' => e = .returned (.bool (longT t)) ∧ w' = w := by
  have h : decide ((60 : Int) < ((t.size : Nat) : Int)) = longT t := by unfold longT; simp; omega
  go_enter Try.func52, Try.ntmps52
  go_wp2_with fail
  go_ret
  exact ⟨rfl, rfl⟩
theorem isLong_below (t : ByteArray) (w : World) : Calls Try.prog 52 #[.string t] w fun e w' => e = .returned (.bool (longT t)) ∧ Below w.heap.size w w' :=
  (isLong_any t w).mono fun _ _ ⟨h1, h2⟩ => ⟨h1, by subst h2; exact Below.refl _ _⟩
/-- what lies in memory -/
def TextsAt (w : World) (a : Option Addr) (ts : List ByteArray) : Prop :=
  ts = [] ∨ ∃ g o, a = some ⟨g, o, none⟩ ∧ ∀ i (h : i < ts.length), w.cell? ⟨g, o + i, none⟩ = some (.string ts[i])
theorem TextsAt.nil (w : World) : TextsAt w none [] := .inl rfl
theorem TextsAt.moved {w w' : World} {a : Option Addr} {ts : List ByteArray} (h : TextsAt w a ts) (hb : ∀ g o v, w.cell? ⟨g, o, none⟩ = some v → w'.cell? ⟨g, o, none⟩ = some v) : TextsAt w' a ts := by
  rcases h with h | ⟨g, o, ha, hc⟩
  · exact .inl h
  · exact .inr ⟨g, o, ha, fun i hi => hb _ _ _ (hc i hi)⟩
theorem TextsAt.below {w w' : World} {a : Option Addr} {ts : List ByteArray} (h : TextsAt w a ts) (hb : Below w.heap.size w w') : TextsAt w' a ts :=
  h.moved (fun g o _ hv => (hb.cell (p := ⟨g, o, none⟩) (World.block_lt_of_cell? _ _ hv)).trans hv)
/-- what lies in memory -/
def PairsAt (w : World) (a : Option Addr) (ts : List (ByteArray × ByteArray)) : Prop :=
  ts = [] ∨ ∃ g o, a = some ⟨g, o, none⟩ ∧ ∀ i (h : i < ts.length), w.cell? ⟨g, o + i * 2, none⟩ = some (.string ts[i].1) ∧ w.cell? ⟨g, o + i * 2 + 1, none⟩ = some (.string ts[i].2)
theorem PairsAt.nil (w : World) : PairsAt w none [] := .inl rfl
theorem PairsAt.moved {w w' : World} {a : Option Addr} {ts : List (ByteArray × ByteArray)} (h : PairsAt w a ts) (hb : ∀ g o v, w.cell? ⟨g, o, none⟩ = some v → w'.cell? ⟨g, o, none⟩ = some v) : PairsAt w' a ts := by
  rcases h with h | ⟨g, o, ha, hc⟩
  · exact .inl h
  · exact .inr ⟨g, o, ha, fun i hi => ⟨hb _ _ _ (hc i hi).1, hb _ _ _ (hc i hi).2⟩⟩
theorem PairsAt.below {w w' : World} {a : Option Addr} {ts : List (ByteArray × ByteArray)} (h : PairsAt w a ts) (hb : Below w.heap.size w w') : PairsAt w' a ts :=
  h.moved (fun g o _ hv => (hb.cell (p := ⟨g, o, none⟩) (World.block_lt_of_cell? _ _ hv)).trans hv)
/-- what lies in memory -/
def ScoresAt (w : World) (a : Option Addr) (ts : List (Int × ByteArray)) : Prop :=
  ts = [] ∨ ∃ g o, a = some ⟨g, o, none⟩ ∧ ∀ i (h : i < ts.length), w.cell? ⟨g, o + i * 2, none⟩ = some (.int .i64 ts[i].1) ∧ w.cell? ⟨g, o + i * 2 + 1, none⟩ = some (.string ts[i].2)
theorem ScoresAt.nil (w : World) : ScoresAt w none [] := .inl rfl
theorem ScoresAt.moved {w w' : World} {a : Option Addr} {ts : List (Int × ByteArray)} (h : ScoresAt w a ts) (hb : ∀ g o v, w.cell? ⟨g, o, none⟩ = some v → w'.cell? ⟨g, o, none⟩ = some v) : ScoresAt w' a ts := by
  rcases h with h | ⟨g, o, ha, hc⟩
  · exact .inl h
  · exact .inr ⟨g, o, ha, fun i hi => ⟨hb _ _ _ (hc i hi).1, hb _ _ _ (hc i hi).2⟩⟩
theorem ScoresAt.below {w w' : World} {a : Option Addr} {ts : List (Int × ByteArray)} (h : ScoresAt w a ts) (hb : Below w.heap.size w w') : ScoresAt w' a ts :=
  h.moved (fun g o _ hv => (hb.cell (p := ⟨g, o, none⟩) (World.block_lt_of_cell? _ _ hv)).trans hv)

set_option maxRecDepth 100000 in
set_option maxHeartbeats 1000000 in
theorem idxLong_any (a : Option Addr) (cap : Nat) (ts : List ByteArray) (w : World) (hs : TextsAt w a ts) (hn : ts.length ≤ 1000000) :
    Calls Try.prog 38 #[.slice a ts.length cap, .func (.func 52) #[] #[]] w fun e w' => (∃ n : Int, e = .returned (.int .i64 n) ∧ (decide (0 ≤ n) = ts.any longT)) ∧ Below w.heap.size w w' := by
  have HS := hide hs
  clear hs
  go_enter Try.func38, Try.ntmps38
  go_wp2_with fail
  go_loopw [8] (fun i wr => ∃ k : Nat, k ≤ ts.length ∧ i = .int .i64 k ∧ Below w.heap.size w wr ∧ Hid ((ts.take k).any longT = false)) (fun i _ => ts.length - (intOf i).toNat)
  case atStart => exact ⟨0, Nat.zero_le _, rfl, Below.refl _ _, by simp [Hid]⟩
  case round =>
    obtain ⟨k, hk, rfl, hb, HA⟩ := hrel
    by_cases hlt : k < ts.length
    · obtain ⟨g, o, rfl, hcs⟩ : ∃ g o, a = some ⟨g, o, none⟩ ∧ ∀ i (h : i < ts.length), w.cell? ⟨g, o + i, none⟩ = some (.string ts[i]) := by
        rcases HS.out with h | h
        · subst h; simp at hlt
        · exact h
      have HB : Hid (∀ g o v, w.cell? ⟨g, o, none⟩ = some v → wr.cell? ⟨g, o, none⟩ = some v) := fun g o _ hv => (hb.cell (p := ⟨g, o, none⟩) (World.block_lt_of_cell? _ _ hv)).trans hv
      have d0 : wr.cell? ⟨g, o + k, none⟩ = some (.string ts[k]) := HB.out _ _ _ (hcs k hlt)
      have HT : Hid ((ts.take (k + 1)).any longT = ((ts.take k).any longT || longT ts[k])) := by
        rw [Hid, List.take_succ_eq_append_getElem hlt, List.any_append]
        simp
      have HF : Hid (longT ts[k] = true → ts.any longT = true) := fun hx => List.any_eq_true.mpr ⟨ts[k], List.getElem_mem hlt, hx⟩
      clear hcs HS HB
      go_wp2_with fail
      refine (isLong_below ts[k] wr).mono ?_
      rintro e w1 ⟨rfl, hb1⟩
      have hb2 : Below w.heap.size w w1 := hb.trans (hb1.mono hb.size)
      cases hx : longT ts[k] with
      | true =>
        have HY := hide (HF.out hx)
        clear HF HT hx
        go_wp2_with fail
        go_ret
        exact ⟨⟨_, rfl, by rw [HY.out]; simp⟩, hb2⟩
      | false =>
        have HY : Hid ((ts.take (k + 1)).any longT = false) := by rw [Hid, HT.out, HA.out, hx]; rfl
        clear HF HT hx
        go_wp2_with fail
        go_roundw
        case rel => exact ⟨k + 1, by omega, by go_num, hb2, HY⟩
        case measure => simp [intOf]; omega
    · have hkk : k = ts.length := by omega
      subst hkk
      have HY : Hid (ts.any longT = false) := by have := HA.out; rw [List.take_length] at this; exact this
      go_wp2_with fail
      go_ret
      exact ⟨⟨-1, rfl, by rw [HY.out]; rfl⟩, hb⟩
theorem containsLong_any (a : Option Addr) (cap : Nat) (ts : List ByteArray) (w : World) (hs : TextsAt w a ts) (hn : ts.length ≤ 1000000) :
    Calls Try.prog 22 #[.slice a ts.length cap, .func (.func 52) #[] #[]] w fun e w' => e = .returned (.bool (ts.any longT)) ∧ Below w.heap.size w w' := by
  have HI := hide (idxLong_any a cap ts w hs hn)
  clear hs
  go_enter Try.func22, Try.ntmps22
  go_wp2_with fail
  refine HI.out.mono ?_
  rintro e w1 ⟨⟨n, rfl, hd⟩, hb⟩
  have HD := hide hd
  clear hd
  go_wp2_with fail
  go_ret
  exact ⟨by rw [← HD.out]; rfl, hb⟩

theorem checkSizeT_any (a : Option Addr) (cap : Nat) (ts : List ByteArray) (w : World) (hs : TextsAt w a ts) :
    Calls Try.prog 51 #[.slice a ts.length cap, .func (.func 52) #[] #[]] w fun e w' => e = .returned (.int .i64 (sizeT ts.length (ts.any longT))) ∧ Below w.heap.size w w' := by
  by_cases h0 : ts.length = 0
  · have hv : sizeT ts.length (ts.any longT) = 5 := by rw [sizeT, if_pos h0]
    rw [hv]
    clear hv
    go_enter Try.func51, Try.ntmps51
    go_wp2_with fail
    go_ret
    exact ⟨rfl, Below.refl _ _⟩
  · have h0b : ((ts.length : Int) == 0) = false := by rw [beq_eq_false_iff_ne]; omega
    by_cases h24 : 24 < ts.length
    · have hv : sizeT ts.length (ts.any longT) = 2 := by rw [sizeT, if_neg h0, if_pos (.inl h24)]
      have h24' : (24 : Int) < ((ts.length : Nat) : Int) := by omega
      rw [hv]
      clear hv
      go_enter Try.func51, Try.ntmps51
      go_wp2_with fail
      go_ret
      exact ⟨rfl, Below.refl _ _⟩
    · have h24' : ¬ (24 : Int) < ((ts.length : Nat) : Int) := by omega
      have HC := hide (containsLong_any a cap ts w hs (by omega))
      cases hl : ts.any longT with
      | true =>
        have hv : sizeT ts.length true = 2 := by rw [sizeT, if_neg h0, if_pos (.inr rfl)]
        rw [hl] at HC
        rw [hv]
        clear hv hs hl
        go_enter Try.func51, Try.ntmps51
        go_wp2_with fail
        refine HC.out.mono ?_
        rintro e w1 ⟨rfl, hb1⟩
        go_wp2_with fail
        go_ret
        exact ⟨rfl, hb1⟩
      | false =>
        have hv : sizeT ts.length false = 0 := by rw [sizeT, if_neg h0, if_neg (by rintro (h | h); omega; cases h)]
        rw [hl] at HC
        rw [hv]
        clear hv hs hl
        go_enter Try.func51, Try.ntmps51
        go_wp2_with fail
        refine HC.out.mono ?_
        rintro e w1 ⟨rfl, hb1⟩
        go_wp2_with fail
        go_ret
        exact ⟨rfl, hb1⟩
end Go.Proofs.Ytolpmaapdkhigac
