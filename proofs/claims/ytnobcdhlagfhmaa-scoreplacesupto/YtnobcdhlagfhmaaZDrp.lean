/- WALK of hashes: a copy of pairs; which ones go. -/
import Derived.Test.YtnobcdhlagfhmaaZPut
import Derived.Handy
namespace Go.Proofs.Ytnobcdhlagfhmaa.Z
open Go.RowKit

set_option maxRecDepth 100000 in
set_option maxHeartbeats 1000000 in
theorem cloneP_any (a : Option Addr) (c : Nat) (L : List Sc) (w : World) (hL : ScoresAt w a L) (hn : L.length ≤ 1000000) :
    Calls Try.prog 60 #[.slice a L.length c] w fun e w' => ∃ v, e = .returned v ∧ w'.ownsRow w.heap.size 45 2 v L.length (rowP L) ∧ Below w.heap.size w w' := by
  cases a with
  | none =>
    obtain rfl : L = [] := by
      rcases hL with h | ⟨g, o, h, _⟩
      · exact h
      · cases h
    have he : ∀ w : World, (binOp .eql 24 (.slice none 0 c) (.slice none 0 0)).run Try.prog w = .ok (.bool true) w := fun _ => rfl
    go_enter Try.func60, Try.ntmps60
    go_wp2_with fail
    go_ret
    exact ⟨_, rfl, World.ownsRow_nil _ _ _ _, Below.refl _ _⟩
  | some ad =>
    have HL := hide hL
    clear hL
    have HB : Below w.heap.size w (w.alloc (.cells #[] 45)) := (Below.refl _ w).alloc (Nat.le_refl _) _
    have HO : (w.alloc (.cells #[] 45)).ownsRow w.heap.size 45 2 (.slice (some ⟨w.heap.size, 0, none⟩) 0 0) 0 [] := World.ownsRow_lit w #[] 0 (Nat.le_refl _) (Nat.zero_le _) rfl
    have HLB := HL.out.below HB
    have he : ∀ w : World, (binOp .eql 24 (.slice (some ad) L.length c) (.slice none 0 0)).run Try.prog w = .ok (.bool false) w := fun _ => rfl
    go_enter Try.func60, Try.ntmps60
    go_wp2_with (at_builtin; refine wpList_append_pairs rfl _ _ rfl w.heap.size _ 0 [] rfl HO (some ad) c L rfl HLB (by omega) (by simp) ?_)
    intro v2 w2 hown2 hg2
    have hb2 : Below w.heap.size w w2 := HB.grown hg2 HB.size (fun j hj => (HO.lt j hj).1)
    go_wp2_with fail
    go_ret
    exact ⟨v2, rfl, hown2, hb2⟩
set_option maxRecDepth 100000 in
set_option maxHeartbeats 1000000 in
theorem indexT_any (a : Option Addr) (cap : Nat) (ts : List ByteArray) (s : ByteArray) (w : World) (hs : TextsAt w a ts) (hn : ts.length ≤ 281474976710656) :
    Calls Try.prog 56 #[.slice a ts.length cap, .string s] w fun e w' => (∃ n : Int, e = .returned (.int .i64 n) ∧ decide (0 ≤ n) = hasT ts s) ∧ w' = w := by
  have HS := hide hs
  clear hs
  go_enter Try.func56, Try.ntmps56
  go_wp2_with fail
  go_loop [8] (fun i => ∃ k : Nat, k ≤ ts.length ∧ i = .int .i64 k ∧ Hid (s ∉ ts.take k)) (fun i => ts.length - (intOf i).toNat)
  case atStart => exact ⟨0, Nat.zero_le _, rfl, by simp [Hid]⟩
  case round =>
    obtain ⟨k, hk, rfl, HA⟩ := hrel
    by_cases hlt : k < ts.length
    · have hlt' : ((k : Nat) : Int) < ((ts.length : Nat) : Int) := by omega
      obtain ⟨g, o, rfl, hcs⟩ : ∃ g o, a = some ⟨g, o, none⟩ ∧ ∀ i (h : i < ts.length), w.cell? ⟨g, o + i, none⟩ = some (.string ts[i]) := by
        rcases HS.out with h | h
        · subst h; simp at hlt
        · exact h
      have d0 : w.cell? ⟨g, o + k, none⟩ = some (.string ts[k]) := hcs k hlt
      have HT : Hid (ts[k] ≠ s → s ∉ ts.take (k + 1)) := fun hne hm => by
        rw [List.take_succ_eq_append_getElem hlt, List.mem_append] at hm
        rcases hm with hm | hm
        · exact HA.out hm
        · simp at hm; exact hne hm.symm
      have HF : Hid (ts[k] = s → hasT ts s = true) := fun he => hasT_iff.2 (he ▸ List.getElem_mem hlt)
      have hbq := beq_fd s ts[k]
      clear hcs HS
      generalize ts[k] = X at *
      by_cases hXs : X = s
      · have HF' := hide (HF.out hXs)
        have hb1 : (s.toList == X.toList) = true := by rw [hbq]; exact decide_eq_true hXs.symm
        have HXs := hide hXs
        clear HT HF hbq hXs
        go_wp2_with fail
        go_ret
        exact ⟨⟨_, rfl, by rw [HF'.out]; simp⟩, rfl⟩
      · have HT' := hide (HT.out hXs)
        have hb1 : (s.toList == X.toList) = false := by rw [hbq]; exact decide_eq_false (fun e => hXs e.symm)
        have HXs := hide hXs
        clear HT HF hbq hXs
        go_wp2_with fail
        go_round
        case rel => exact ⟨k + 1, by omega, by go_num, HT'⟩
        case measure => simp [intOf]; omega
    · have hge : ¬ ((k : Nat) : Int) < ((ts.length : Nat) : Int) := by omega
      obtain rfl : k = ts.length := by omega
      have HY : Hid (hasT ts s = false) := by have := HA.out; rw [List.take_length] at this; exact hasT_not this
      go_wp2_with fail
      go_ret
      exact ⟨⟨-1, rfl, by rw [HY.out]; rfl⟩, rfl⟩
theorem containsT_any (a : Option Addr) (cap : Nat) (ts : List ByteArray) (s : ByteArray) (w : World) (hs : TextsAt w a ts) (hn : ts.length ≤ 281474976710656) :
    Calls Try.prog 30 #[.slice a ts.length cap, .string s] w fun e w' => e = .returned (.bool (hasT ts s)) ∧ w' = w := by
  have HI := hide (indexT_any a cap ts s w hs hn)
  clear hs
  go_enter Try.func30, Try.ntmps30
  go_wp2_with fail
  refine HI.out.mono ?_
  rintro e w1 ⟨⟨n, rfl, hd⟩, rfl⟩
  have HD := hide hd
  clear hd
  go_wp2_with fail
  go_ret
  exact ⟨by rw [← HD.out]; rfl, rfl⟩
set_option maxRecDepth 100000 in
theorem goesP_any (b : Nat) (al : Option Addr) (cl : Nat) (l : List ByteArray) (x : Sc) (W : World) (hc : W.cell? ⟨b, 0, none⟩ = some (.slice al l.length cl)) (hl : TextsAt W al l) (hn : l.length ≤ 281474976710656) :
    Calls Try.prog 61 #[.agg #[.int .i64 x.1, .string x.2], .pointer (some ⟨b, 0, none⟩)] W fun e w' => e = .returned (.bool (hasT l x.2)) ∧ Below W.heap.size W w' := by
  have hbl := World.block_lt_of_cell? _ _ hc
  have hB : Below W.heap.size W (W.alloc (.cells #[.int .i64 x.1, .string x.2] 45)) := (Below.refl _ W).alloc (Nat.le_refl _) _
  have hc2 : (W.alloc (.cells #[.int .i64 x.1, .string x.2] 45)).cell? ⟨b, 0, none⟩ = some (.slice al l.length cl) := (hB.cell (p := ⟨b, 0, none⟩) hbl).trans hc
  have HN := hide (containsT_any al cl l x.2 _ (hl.below hB) hn)
  clear hl hc
  generalize hasT l x.2 = R at *
  go_enter Try.func61, Try.ntmps61
  go_wp2_with fail
  refine HN.out.mono ?_
  rintro e w1 ⟨rfl, rfl⟩
  go_wp2_with fail
  go_ret
  exact ⟨rfl, hB⟩
end Go.Proofs.Ytnobcdhlagfhmaa.Z
