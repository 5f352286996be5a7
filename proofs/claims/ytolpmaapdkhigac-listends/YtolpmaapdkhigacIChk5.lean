/- WALKS of the item's checks: how many, and how long (pairs and scores). -/
import Derived.Test.YtolpmaapdkhigacIChk1
import Derived.Handy
namespace Go.Proofs.Ytolpmaapdkhigac
open Go.RowKit

theorem longP_any (x : ByteArray × ByteArray) (w : World) : Calls Try.prog 58 #[.agg #[.string x.1, .string x.2]] w fun e w' => e = .returned (.bool (longP x)) ∧ Below w.heap.size w w' := by
  obtain ⟨x1, x2⟩ := x
  cases h1 : longT x1 with
  | true =>
    have hv : longP (x1, x2) = true := by simp [longP, h1]
    rw [hv]
    clear hv
    go_enter Try.func58, Try.ntmps58
    go_wp2_with fail
    refine (isLong_any x1 _).mono ?_
    rintro e w1 ⟨rfl, rfl⟩
    rw [h1]
    go_wp2_with fail
    go_ret
    exact ⟨rfl, (Below.refl _ _).alloc (Nat.le_refl _) _⟩
  | false =>
    have hv : longP (x1, x2) = longT x2 := by simp [longP, h1]
    rw [hv]
    clear hv
    go_enter Try.func58, Try.ntmps58
    go_wp2_with fail
    refine (isLong_any x1 _).mono ?_
    rintro e w1 ⟨rfl, rfl⟩
    rw [h1]
    go_wp2_with fail
    refine (isLong_any x2 _).mono ?_
    rintro e w1 ⟨rfl, rfl⟩
    go_wp2_with fail
    go_ret
    exact ⟨rfl, (Below.refl _ _).alloc (Nat.le_refl _) _⟩
theorem longS_any (x : Int × ByteArray) (w : World) : Calls Try.prog 63 #[.agg #[.int .i64 x.1, .string x.2]] w fun e w' => e = .returned (.bool (longS x)) ∧ Below w.heap.size w w' := by
  obtain ⟨x1, x2⟩ := x
  have hv : longS (x1, x2) = longT x2 := rfl
  rw [hv]
  clear hv
  go_enter Try.func63, Try.ntmps63
  go_wp2_with fail
  refine (isLong_any x2 _).mono ?_
  rintro e w1 ⟨rfl, rfl⟩
  go_wp2_with fail
  go_ret
  exact ⟨rfl, (Below.refl _ _).alloc (Nat.le_refl _) _⟩
theorem outS_any (x : Int × ByteArray) (w : World) : Calls Try.prog 65 #[.agg #[.int .i64 x.1, .string x.2]] w fun e w' => e = .returned (.bool (outS x)) ∧ Below w.heap.size w w' := by
  obtain ⟨x1, x2⟩ := x
  by_cases h1 : x1 < -999999999
  · have hv : outS (x1, x2) = true := by simp [outS, h1]
    rw [hv]
    clear hv
    go_enter Try.func65, Try.ntmps65
    go_wp2_with fail
    go_ret
    exact ⟨rfl, (Below.refl _ _).alloc (Nat.le_refl _) _⟩
  · have hv : outS (x1, x2) = decide (999999999 < x1) := by simp [outS, h1]
    rw [hv]
    clear hv
    go_enter Try.func65, Try.ntmps65
    go_wp2_with fail
    go_ret
    exact ⟨rfl, (Below.refl _ _).alloc (Nat.le_refl _) _⟩

set_option maxRecDepth 100000 in
set_option maxHeartbeats 1000000 in
theorem idxLongP_any (a : Option Addr) (cap : Nat) (ts : List (ByteArray × ByteArray)) (w : World) (hs : PairsAt w a ts) (hn : ts.length ≤ 1000000) :
    Calls Try.prog 75 #[.slice a ts.length cap, .func (.func 58) #[] #[]] w fun e w' => (∃ n : Int, e = .returned (.int .i64 n) ∧ (decide (0 ≤ n) = ts.any longP)) ∧ Below w.heap.size w w' := by
  have HS := hide hs
  clear hs
  go_enter Try.func75, Try.ntmps75
  go_wp2_with fail
  go_loopw [8] (fun i wr => ∃ k : Nat, k ≤ ts.length ∧ i = .int .i64 k ∧ Below w.heap.size w wr ∧ Hid ((ts.take k).any longP = false)) (fun i _ => ts.length - (intOf i).toNat)
  case atStart => exact ⟨0, Nat.zero_le _, rfl, Below.refl _ _, by simp [Hid]⟩
  case round =>
    obtain ⟨k, hk, rfl, hb, HA⟩ := hrel
    by_cases hlt : k < ts.length
    · obtain ⟨g, o, rfl, hcs⟩ : ∃ g o, a = some ⟨g, o, none⟩ ∧ ∀ i (h : i < ts.length), w.cell? ⟨g, o + i * 2, none⟩ = some (.string ts[i].1) ∧ w.cell? ⟨g, o + i * 2 + 1, none⟩ = some (.string ts[i].2) := by
        rcases HS.out with h | h
        · subst h; simp at hlt
        · exact h
      have HB : Hid (∀ g o v, w.cell? ⟨g, o, none⟩ = some v → wr.cell? ⟨g, o, none⟩ = some v) := fun g o _ hv => (hb.cell (p := ⟨g, o, none⟩) (World.block_lt_of_cell? _ _ hv)).trans hv
      have d0 : wr.cell? ⟨g, o + k * 2, none⟩ = some (.string ts[k].1) := HB.out _ _ _ ((hcs k hlt).1)
      have d1 : wr.cell? ⟨g, o + k * 2 + 1, none⟩ = some (.string ts[k].2) := HB.out _ _ _ ((hcs k hlt).2)
      have HT : Hid ((ts.take (k + 1)).any longP = ((ts.take k).any longP || longP ts[k])) := by
        rw [Hid, List.take_succ_eq_append_getElem hlt, List.any_append]
        simp
      have HF : Hid (longP ts[k] = true → ts.any longP = true) := fun hx => List.any_eq_true.mpr ⟨ts[k], List.getElem_mem hlt, hx⟩
      clear hcs HS HB
      go_wp2_with fail
      refine (longP_any ts[k] wr).mono ?_
      rintro e w1 ⟨rfl, hb1⟩
      have hb2 : Below w.heap.size w w1 := hb.trans (hb1.mono hb.size)
      cases hx : longP ts[k] with
      | true =>
        have HY := hide (HF.out hx)
        clear HF HT hx
        go_wp2_with fail
        go_ret
        exact ⟨⟨_, rfl, by rw [HY.out]; simp⟩, hb2⟩
      | false =>
        have HY : Hid ((ts.take (k + 1)).any longP = false) := by rw [Hid, HT.out, HA.out, hx]; rfl
        clear HF HT hx
        go_wp2_with fail
        go_roundw
        case rel => exact ⟨k + 1, by omega, by go_num, hb2, HY⟩
        case measure => simp [intOf]; omega
    · have hkk : k = ts.length := by omega
      subst hkk
      have HY : Hid (ts.any longP = false) := by have := HA.out; rw [List.take_length] at this; exact this
      go_wp2_with fail
      go_ret
      exact ⟨⟨-1, rfl, by rw [HY.out]; rfl⟩, hb⟩
theorem containsLongP_any (a : Option Addr) (cap : Nat) (ts : List (ByteArray × ByteArray)) (w : World) (hs : PairsAt w a ts) (hn : ts.length ≤ 1000000) :
    Calls Try.prog 70 #[.slice a ts.length cap, .func (.func 58) #[] #[]] w fun e w' => e = .returned (.bool (ts.any longP)) ∧ Below w.heap.size w w' := by
  have HI := hide (idxLongP_any a cap ts w hs hn)
  clear hs
  go_enter Try.func70, Try.ntmps70
  go_wp2_with fail
  refine HI.out.mono ?_
  rintro e w1 ⟨⟨n, rfl, hd⟩, hb⟩
  have HD := hide hd
  clear hd
  go_wp2_with fail
  go_ret
  exact ⟨by rw [← HD.out]; rfl, hb⟩

theorem checkSizeP_any (a : Option Addr) (cap : Nat) (ts : List (ByteArray × ByteArray)) (w : World) (hs : PairsAt w a ts) :
    Calls Try.prog 59 #[.slice a ts.length cap, .func (.func 58) #[] #[]] w fun e w' => e = .returned (.int .i64 (sizeT ts.length (ts.any longP))) ∧ Below w.heap.size w w' := by
  by_cases h0 : ts.length = 0
  · have hv : sizeT ts.length (ts.any longP) = 5 := by rw [sizeT, if_pos h0]
    rw [hv]
    clear hv
    go_enter Try.func59, Try.ntmps59
    go_wp2_with fail
    go_ret
    exact ⟨rfl, Below.refl _ _⟩
  · have h0b : ((ts.length : Int) == 0) = false := by rw [beq_eq_false_iff_ne]; omega
    by_cases h24 : 24 < ts.length
    · have hv : sizeT ts.length (ts.any longP) = 2 := by rw [sizeT, if_neg h0, if_pos (.inl h24)]
      have h24' : (24 : Int) < ((ts.length : Nat) : Int) := by omega
      rw [hv]
      clear hv
      go_enter Try.func59, Try.ntmps59
      go_wp2_with fail
      go_ret
      exact ⟨rfl, Below.refl _ _⟩
    · have h24' : ¬ (24 : Int) < ((ts.length : Nat) : Int) := by omega
      have HC := hide (containsLongP_any a cap ts w hs (by omega))
      cases hl : ts.any longP with
      | true =>
        have hv : sizeT ts.length true = 2 := by rw [sizeT, if_neg h0, if_pos (.inr rfl)]
        rw [hl] at HC
        rw [hv]
        clear hv hs hl
        go_enter Try.func59, Try.ntmps59
        go_wp2_with fail
        refine HC.out.mono ?_
        rintro e w1 ⟨rfl, hb1⟩
        go_wp2_with fail
        go_ret
        exact ⟨rfl, hb1⟩
      | false =>
        have hv : sizeT ts.length false = 0 := by rw [sizeT, if_neg h0, if_neg (by rintro (h | h); omega; cases h)]
        rw [hl] at HC
        rw [hv]
        clear hv hs hl
        go_enter Try.func59, Try.ntmps59
        go_wp2_with fail
        refine HC.out.mono ?_
        rintro e w1 ⟨rfl, hb1⟩
        go_wp2_with fail
        go_ret
        exact ⟨rfl, hb1⟩

set_option maxRecDepth 100000 in
set_option maxHeartbeats 1000000 in
theorem idxLongS_any (a : Option Addr) (cap : Nat) (ts : List (Int × ByteArray)) (w : World) (hs : ScoresAt w a ts) (hn : ts.length ≤ 1000000) :
    Calls Try.prog 71 #[.slice a ts.length cap, .func (.func 63) #[] #[]] w fun e w' => (∃ n : Int, e = .returned (.int .i64 n) ∧ (decide (0 ≤ n) = ts.any longS)) ∧ Below w.heap.size w w' := by
  have HS := hide hs
  clear hs
  go_enter Try.func71, Try.ntmps71
  go_wp2_with fail
  go_loopw [8] (fun i wr => ∃ k : Nat, k ≤ ts.length ∧ i = .int .i64 k ∧ Below w.heap.size w wr ∧ Hid ((ts.take k).any longS = false)) (fun i _ => ts.length - (intOf i).toNat)
  case atStart => exact ⟨0, Nat.zero_le _, rfl, Below.refl _ _, by simp [Hid]⟩
  case round =>
    obtain ⟨k, hk, rfl, hb, HA⟩ := hrel
    by_cases hlt : k < ts.length
    · obtain ⟨g, o, rfl, hcs⟩ : ∃ g o, a = some ⟨g, o, none⟩ ∧ ∀ i (h : i < ts.length), w.cell? ⟨g, o + i * 2, none⟩ = some (.int .i64 ts[i].1) ∧ w.cell? ⟨g, o + i * 2 + 1, none⟩ = some (.string ts[i].2) := by
        rcases HS.out with h | h
        · subst h; simp at hlt
        · exact h
      have HB : Hid (∀ g o v, w.cell? ⟨g, o, none⟩ = some v → wr.cell? ⟨g, o, none⟩ = some v) := fun g o _ hv => (hb.cell (p := ⟨g, o, none⟩) (World.block_lt_of_cell? _ _ hv)).trans hv
      have d0 : wr.cell? ⟨g, o + k * 2, none⟩ = some (.int .i64 ts[k].1) := HB.out _ _ _ ((hcs k hlt).1)
      have d1 : wr.cell? ⟨g, o + k * 2 + 1, none⟩ = some (.string ts[k].2) := HB.out _ _ _ ((hcs k hlt).2)
      have HT : Hid ((ts.take (k + 1)).any longS = ((ts.take k).any longS || longS ts[k])) := by
        rw [Hid, List.take_succ_eq_append_getElem hlt, List.any_append]
        simp
      have HF : Hid (longS ts[k] = true → ts.any longS = true) := fun hx => List.any_eq_true.mpr ⟨ts[k], List.getElem_mem hlt, hx⟩
      clear hcs HS HB
      go_wp2_with fail
      refine (longS_any ts[k] wr).mono ?_
      rintro e w1 ⟨rfl, hb1⟩
      have hb2 : Below w.heap.size w w1 := hb.trans (hb1.mono hb.size)
      cases hx : longS ts[k] with
      | true =>
        have HY := hide (HF.out hx)
        clear HF HT hx
        go_wp2_with fail
        go_ret
        exact ⟨⟨_, rfl, by rw [HY.out]; simp⟩, hb2⟩
      | false =>
        have HY : Hid ((ts.take (k + 1)).any longS = false) := by rw [Hid, HT.out, HA.out, hx]; rfl
        clear HF HT hx
        go_wp2_with fail
        go_roundw
        case rel => exact ⟨k + 1, by omega, by go_num, hb2, HY⟩
        case measure => simp [intOf]; omega
    · have hkk : k = ts.length := by omega
      subst hkk
      have HY : Hid (ts.any longS = false) := by have := HA.out; rw [List.take_length] at this; exact this
      go_wp2_with fail
      go_ret
      exact ⟨⟨-1, rfl, by rw [HY.out]; rfl⟩, hb⟩
theorem containsLongS_any (a : Option Addr) (cap : Nat) (ts : List (Int × ByteArray)) (w : World) (hs : ScoresAt w a ts) (hn : ts.length ≤ 1000000) :
    Calls Try.prog 64 #[.slice a ts.length cap, .func (.func 63) #[] #[]] w fun e w' => e = .returned (.bool (ts.any longS)) ∧ Below w.heap.size w w' := by
  have HI := hide (idxLongS_any a cap ts w hs hn)
  clear hs
  go_enter Try.func64, Try.ntmps64
  go_wp2_with fail
  refine HI.out.mono ?_
  rintro e w1 ⟨⟨n, rfl, hd⟩, hb⟩
  have HD := hide hd
  clear hd
  go_wp2_with fail
  go_ret
  exact ⟨by rw [← HD.out]; rfl, hb⟩

theorem checkSizeS_any (a : Option Addr) (cap : Nat) (ts : List (Int × ByteArray)) (w : World) (hs : ScoresAt w a ts) :
    Calls Try.prog 62 #[.slice a ts.length cap, .func (.func 63) #[] #[]] w fun e w' => e = .returned (.int .i64 (sizeT ts.length (ts.any longS))) ∧ Below w.heap.size w w' := by
  by_cases h0 : ts.length = 0
  · have hv : sizeT ts.length (ts.any longS) = 5 := by rw [sizeT, if_pos h0]
    rw [hv]
    clear hv
    go_enter Try.func62, Try.ntmps62
    go_wp2_with fail
    go_ret
    exact ⟨rfl, Below.refl _ _⟩
  · have h0b : ((ts.length : Int) == 0) = false := by rw [beq_eq_false_iff_ne]; omega
    by_cases h24 : 24 < ts.length
    · have hv : sizeT ts.length (ts.any longS) = 2 := by rw [sizeT, if_neg h0, if_pos (.inl h24)]
      have h24' : (24 : Int) < ((ts.length : Nat) : Int) := by omega
      rw [hv]
      clear hv
      go_enter Try.func62, Try.ntmps62
      go_wp2_with fail
      go_ret
      exact ⟨rfl, Below.refl _ _⟩
    · have h24' : ¬ (24 : Int) < ((ts.length : Nat) : Int) := by omega
      have HC := hide (containsLongS_any a cap ts w hs (by omega))
      cases hl : ts.any longS with
      | true =>
        have hv : sizeT ts.length true = 2 := by rw [sizeT, if_neg h0, if_pos (.inr rfl)]
        rw [hl] at HC
        rw [hv]
        clear hv hs hl
        go_enter Try.func62, Try.ntmps62
        go_wp2_with fail
        refine HC.out.mono ?_
        rintro e w1 ⟨rfl, hb1⟩
        go_wp2_with fail
        go_ret
        exact ⟨rfl, hb1⟩
      | false =>
        have hv : sizeT ts.length false = 0 := by rw [sizeT, if_neg h0, if_neg (by rintro (h | h); omega; cases h)]
        rw [hl] at HC
        rw [hv]
        clear hv hs hl
        go_enter Try.func62, Try.ntmps62
        go_wp2_with fail
        refine HC.out.mono ?_
        rintro e w1 ⟨rfl, hb1⟩
        go_wp2_with fail
        go_ret
        exact ⟨rfl, hb1⟩

set_option maxRecDepth 100000 in
set_option maxHeartbeats 1000000 in
theorem idxOutS_any (a : Option Addr) (cap : Nat) (ts : List (Int × ByteArray)) (w : World) (hs : ScoresAt w a ts) (hn : ts.length ≤ 1000000) :
    Calls Try.prog 71 #[.slice a ts.length cap, .func (.func 65) #[] #[]] w fun e w' => (∃ n : Int, e = .returned (.int .i64 n) ∧ (decide (0 ≤ n) = ts.any outS)) ∧ Below w.heap.size w w' := by
  have HS := hide hs
  clear hs
  go_enter Try.func71, Try.ntmps71
  go_wp2_with fail
  go_loopw [8] (fun i wr => ∃ k : Nat, k ≤ ts.length ∧ i = .int .i64 k ∧ Below w.heap.size w wr ∧ Hid ((ts.take k).any outS = false)) (fun i _ => ts.length - (intOf i).toNat)
  case atStart => exact ⟨0, Nat.zero_le _, rfl, Below.refl _ _, by simp [Hid]⟩
  case round =>
    obtain ⟨k, hk, rfl, hb, HA⟩ := hrel
    by_cases hlt : k < ts.length
    · obtain ⟨g, o, rfl, hcs⟩ : ∃ g o, a = some ⟨g, o, none⟩ ∧ ∀ i (h : i < ts.length), w.cell? ⟨g, o + i * 2, none⟩ = some (.int .i64 ts[i].1) ∧ w.cell? ⟨g, o + i * 2 + 1, none⟩ = some (.string ts[i].2) := by
        rcases HS.out with h | h
        · subst h; simp at hlt
        · exact h
      have HB : Hid (∀ g o v, w.cell? ⟨g, o, none⟩ = some v → wr.cell? ⟨g, o, none⟩ = some v) := fun g o _ hv => (hb.cell (p := ⟨g, o, none⟩) (World.block_lt_of_cell? _ _ hv)).trans hv
      have d0 : wr.cell? ⟨g, o + k * 2, none⟩ = some (.int .i64 ts[k].1) := HB.out _ _ _ ((hcs k hlt).1)
      have d1 : wr.cell? ⟨g, o + k * 2 + 1, none⟩ = some (.string ts[k].2) := HB.out _ _ _ ((hcs k hlt).2)
      have HT : Hid ((ts.take (k + 1)).any outS = ((ts.take k).any outS || outS ts[k])) := by
        rw [Hid, List.take_succ_eq_append_getElem hlt, List.any_append]
        simp
      have HF : Hid (outS ts[k] = true → ts.any outS = true) := fun hx => List.any_eq_true.mpr ⟨ts[k], List.getElem_mem hlt, hx⟩
      clear hcs HS HB
      go_wp2_with fail
      refine (outS_any ts[k] wr).mono ?_
      rintro e w1 ⟨rfl, hb1⟩
      have hb2 : Below w.heap.size w w1 := hb.trans (hb1.mono hb.size)
      cases hx : outS ts[k] with
      | true =>
        have HY := hide (HF.out hx)
        clear HF HT hx
        go_wp2_with fail
        go_ret
        exact ⟨⟨_, rfl, by rw [HY.out]; simp⟩, hb2⟩
      | false =>
        have HY : Hid ((ts.take (k + 1)).any outS = false) := by rw [Hid, HT.out, HA.out, hx]; rfl
        clear HF HT hx
        go_wp2_with fail
        go_roundw
        case rel => exact ⟨k + 1, by omega, by go_num, hb2, HY⟩
        case measure => simp [intOf]; omega
    · have hkk : k = ts.length := by omega
      subst hkk
      have HY : Hid (ts.any outS = false) := by have := HA.out; rw [List.take_length] at this; exact this
      go_wp2_with fail
      go_ret
      exact ⟨⟨-1, rfl, by rw [HY.out]; rfl⟩, hb⟩
theorem containsOutS_any (a : Option Addr) (cap : Nat) (ts : List (Int × ByteArray)) (w : World) (hs : ScoresAt w a ts) (hn : ts.length ≤ 1000000) :
    Calls Try.prog 64 #[.slice a ts.length cap, .func (.func 65) #[] #[]] w fun e w' => e = .returned (.bool (ts.any outS)) ∧ Below w.heap.size w w' := by
  have HI := hide (idxOutS_any a cap ts w hs hn)
  clear hs
  go_enter Try.func64, Try.ntmps64
  go_wp2_with fail
  refine HI.out.mono ?_
  rintro e w1 ⟨⟨n, rfl, hd⟩, hb⟩
  have HD := hide hd
  clear hd
  go_wp2_with fail
  go_ret
  exact ⟨by rw [← HD.out]; rfl, hb⟩
end Go.Proofs.Ytolpmaapdkhigac
