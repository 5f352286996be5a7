/- WALKS of the reference's lists: what is left; a range; an item that has something. -/
import Derived.Test.YtolpmaapdkhigacLst1
import Derived.Test.YtolpmaapdkhigacRLst1
import Derived.Test.YtolpmaapdkhigacRRng
import Derived.Handy
namespace Go.Proofs.Ytolpmaapdkhigac
open Go.RowKit

set_option maxRecDepth 100000 in
set_option maxHeartbeats 2000000 in
theorem less_any (a : Option Addr) (cap : Nat) (l : List ByteArray) (w : World) (hs : TextsAt w a l) (hn : l.length ≤ 1000) (a2 : Option Addr) (c2 : Nat) (m : List ByteArray) (hm : TextsAt w a2 m) (hnm : m.length ≤ 281474976710656) :
    Calls Try.prog 32 #[.slice a l.length cap, .slice a2 m.length c2] w fun e w' => ∃ v, e = .returned v ∧ w'.ownsRow w.heap.size 9 1 v (keptTo (fun _ t => hasT m t) l l.length).length (strs (keptTo (fun _ t => hasT m t) l l.length)) ∧ Below w.heap.size w w' := by
  obtain ⟨i0, hi, hz0, hz1, hz2⟩ := info_parts infoStr
  have HS := hide hs
  clear hs
  have HM := hide hm
  clear hm
  go_enter Try.func32, Try.ntmps32
  go_wp2_with fail
  go_loopw [5, 6] (fun v i wr => ∃ k : Nat, k ≤ l.length ∧ i = .int .i64 k ∧ wr.ownsRow w.heap.size 9 1 v (keptTo (fun _ t => hasT m t) l k).length (strs (keptTo (fun _ t => hasT m t) l k)) ∧ Below w.heap.size w wr) (fun _ i _ => l.length - (intOf i).toNat)
  case atStart => exact ⟨0, Nat.zero_le _, rfl, World.ownsRow_nil _ _ _ _, Below.refl _ _⟩
  case round =>
    obtain ⟨k, hk, rfl, hown, hbr⟩ := hrel
    have hsz := hbr.size
    have HB : Hid (∀ g o v, w.cell? ⟨g, o, none⟩ = some v → wr.cell? ⟨g, o, none⟩ = some v) := fun g o _ hv => (hbr.cell (p := ⟨g, o, none⟩) (World.block_lt_of_cell? _ _ hv)).trans hv
    by_cases hlt : k < l.length
    · have hlt' : ((k : Nat) : Int) < ((l.length : Nat) : Int) := by omega
      obtain ⟨g, o, rfl, hcs⟩ : ∃ g o, a = some ⟨g, o, none⟩ ∧ ∀ i (h : i < l.length), w.cell? ⟨g, o + i, none⟩ = some (.string l[i]) := by
        rcases HS.out with h | h
        · subst h; simp at hlt
        · exact h
      have d0 : wr.cell? ⟨g, o + k, none⟩ = some (.string l[k]) := HB.out _ _ _ (hcs k hlt)
      have hkl := keptTo_len (fun _ t => hasT m t) l k
      have HC := hide (hasText_any a2 c2 m l[k] wr (HM.out.below (hbr.mono (Nat.le_refl _))) hnm)
      cases hx : (fun _ t => hasT m t) k l[k] with
      | true =>
        have HY := hide (keptTo_go (goes := (fun _ t => hasT m t)) hlt hx)
        have HX := hide hx
        clear hcs HS hx HB HM
        generalize l[k] = X at *
        go_wp2_with fail
        refine HC.out.mono ?_
        rintro e w1 ⟨rfl, rfl⟩
        rw [HX.out]
        go_wp2_with fail
        go_roundw
        case rel => exact ⟨k + 1, by omega, by go_num, by rw [HY.out]; exact hown, hbr⟩
        case measure => simp [intOf]; omega
      | false =>
        have HY := hide (keptTo_stay (goes := (fun _ t => hasT m t)) hlt hx)
        have HX := hide hx
        clear hcs HS hx HB HM
        generalize l[k] = X at *
        go_wp2_with fail
        refine HC.out.mono ?_
        rintro e w1 ⟨rfl, rfl⟩
        rw [HX.out]
        go_wp2_with (at_builtin; refine wpList_append_own _ rfl _ _ 22 rfl w.heap.size 9 i0 (.string ⟨#[]⟩) 1 16 Try.underlying22 hi hz0 hz1 hz2 rfl (by decide) _ _ _ rfl (hown.alloc _) ⟨w1.heap.size, 0, none⟩ 1 1 [.string X] rfl rfl ?c1 ?c2 ?c3 ?c4 ?c5 ?_)
        case c1 =>
          intro j u hj
          match j, hj with
          | 0, hj => simp at hj; subst hj; simp [Addr.add]
        case c2 => intro u hu; simp at hu; subst hu; rfl
        case c3 => unfold maxLen; omega
        case c4 => omega
        case c5 => simp; omega
        intro v' w4 hown4 hgrow _
        have hb4 : Below w.heap.size w w4 := (hbr.alloc (by omega) _).grown hgrow (by simp; omega) (fun j hj => (hown.lt j hj).1)
        have hown5 : w4.ownsRow w.heap.size 9 1 v' (keptTo (fun _ t => hasT m t) l (k + 1)).length (strs (keptTo (fun _ t => hasT m t) l (k + 1))) := by
          rw [HY.out]
          simpa [strs] using hown4
        go_wp2_with fail
        go_roundw
        case rel => exact ⟨k + 1, by omega, by go_num, hown5, hb4⟩
        case measure => simp [intOf]; omega
    · have hge : ¬ ((k : Nat) : Int) < ((l.length : Nat) : Int) := by omega
      obtain rfl : k = l.length := by omega
      go_wp2_with fail
      go_ret
      exact ⟨_, rfl, hown, hbr⟩

def rngGo (n : Nat) (f t : Int) : Nat → ByteArray → Bool := fun i _ => !inR i n f t
set_option maxRecDepth 100000 in
set_option maxHeartbeats 2000000 in
theorem rangeList_any (a : Option Addr) (cap : Nat) (l : List ByteArray) (w : World) (hs : TextsAt w a l) (hn : l.length ≤ 1000) (f t : Int) (hn2 : l.length ≤ 100) (hf1 : -1000 ≤ f) (hf2 : f ≤ 1000) (ht1 : -1000 ≤ t) (ht2 : t ≤ 1000) :
    Calls Try.prog 14 #[.slice a l.length cap, .int .i64 f, .int .i64 t] w fun e w' => ∃ v, e = .returned v ∧ w'.ownsRow w.heap.size 9 1 v (keptTo (rngGo l.length f t) l l.length).length (strs (keptTo (rngGo l.length f t) l l.length)) ∧ Below w.heap.size w w' := by
  obtain ⟨i0, hi, hz0, hz1, hz2⟩ := info_parts infoStr
  have HS := hide hs
  clear hs
  go_enter Try.func14, Try.ntmps14
  go_wp2_with fail
  go_loopw [7, 8] (fun v i wr => ∃ k : Nat, k ≤ l.length ∧ i = .int .i64 k ∧ wr.ownsRow w.heap.size 9 1 v (keptTo (rngGo l.length f t) l k).length (strs (keptTo (rngGo l.length f t) l k)) ∧ Below w.heap.size w wr) (fun _ i _ => l.length - (intOf i).toNat)
  case atStart => exact ⟨0, Nat.zero_le _, rfl, World.ownsRow_nil _ _ _ _, Below.refl _ _⟩
  case round =>
    obtain ⟨k, hk, rfl, hown, hbr⟩ := hrel
    have hsz := hbr.size
    have HB : Hid (∀ g o v, w.cell? ⟨g, o, none⟩ = some v → wr.cell? ⟨g, o, none⟩ = some v) := fun g o _ hv => (hbr.cell (p := ⟨g, o, none⟩) (World.block_lt_of_cell? _ _ hv)).trans hv
    by_cases hlt : k < l.length
    · have hlt' : ((k : Nat) : Int) < ((l.length : Nat) : Int) := by omega
      obtain ⟨g, o, rfl, hcs⟩ : ∃ g o, a = some ⟨g, o, none⟩ ∧ ∀ i (h : i < l.length), w.cell? ⟨g, o + i, none⟩ = some (.string l[i]) := by
        rcases HS.out with h | h
        · subst h; simp at hlt
        · exact h
      have d0 : wr.cell? ⟨g, o + k, none⟩ = some (.string l[k]) := HB.out _ _ _ (hcs k hlt)
      have hkl := keptTo_len (rngGo l.length f t) l k
      have HC : Hid (Calls Try.prog 34 #[.int .i64 k, .int .i64 l.length, .int .i64 f, .int .i64 t] wr fun e w' => e = .returned (.bool (!rngGo l.length f t k l[k])) ∧ w' = wr) := by
        have := inRange_any k l.length f t wr hlt hn2 hf1 hf2 ht1 ht2
        rw [show inR k l.length f t = !rngGo l.length f t k l[k] by simp [rngGo]] at this
        exact this
      cases hx : (rngGo l.length f t) k l[k] with
      | true =>
        have HY := hide (keptTo_go (goes := (rngGo l.length f t)) hlt hx)
        have HX := hide hx
        clear hcs HS hx HB
        generalize l[k] = X at *
        go_wp2_with fail
        refine HC.out.mono ?_
        rintro e w1 ⟨rfl, rfl⟩
        rw [HX.out]
        go_wp2_with fail
        go_roundw
        case rel => exact ⟨k + 1, by omega, by go_num, by rw [HY.out]; exact hown, hbr⟩
        case measure => simp [intOf]; omega
      | false =>
        have HY := hide (keptTo_stay (goes := (rngGo l.length f t)) hlt hx)
        have HX := hide hx
        clear hcs HS hx HB
        generalize l[k] = X at *
        go_wp2_with fail
        refine HC.out.mono ?_
        rintro e w1 ⟨rfl, rfl⟩
        rw [HX.out]
        go_wp2_with (at_builtin; refine wpList_append_own _ rfl _ _ 22 rfl w.heap.size 9 i0 (.string ⟨#[]⟩) 1 16 Try.underlying22 hi hz0 hz1 hz2 rfl (by decide) _ _ _ rfl (hown.alloc _) ⟨w1.heap.size, 0, none⟩ 1 1 [.string X] rfl rfl ?c1 ?c2 ?c3 ?c4 ?c5 ?_)
        case c1 =>
          intro j u hj
          match j, hj with
          | 0, hj => simp at hj; subst hj; simp [Addr.add]
        case c2 => intro u hu; simp at hu; subst hu; rfl
        case c3 => unfold maxLen; omega
        case c4 => omega
        case c5 => simp; omega
        intro v' w4 hown4 hgrow _
        have hb4 : Below w.heap.size w w4 := (hbr.alloc (by omega) _).grown hgrow (by simp; omega) (fun j hj => (hown.lt j hj).1)
        have hown5 : w4.ownsRow w.heap.size 9 1 v' (keptTo (rngGo l.length f t) l (k + 1)).length (strs (keptTo (rngGo l.length f t) l (k + 1))) := by
          rw [HY.out]
          simpa [strs] using hown4
        go_wp2_with fail
        go_roundw
        case rel => exact ⟨k + 1, by omega, by go_num, hown5, hb4⟩
        case measure => simp [intOf]; omega
    · have hge : ¬ ((k : Nat) : Int) < ((l.length : Nat) : Int) := by omega
      obtain rfl : k = l.length := by omega
      go_wp2_with fail
      go_ret
      exact ⟨_, rfl, hown, hbr⟩

set_option maxRecDepth 100000 in
set_option maxHeartbeats 1000000 in
/-- an item of texts alone -/
theorem filled_any (k : Int) (a : Option Addr) (n c : Nat) (w : World) (hn : n ≤ 281474976710656) :
    Calls Try.prog 31 #[.agg #[.int .i64 k, .string ⟨#[]⟩, .slice a n c, .slice none 0 0, .slice none 0 0]] w fun e w' => e = .returned (if n = 0 then .agg #[.int .i64 0, .string ⟨#[]⟩, .slice none 0 0, .slice none 0 0, .slice none 0 0] else .agg #[.int .i64 k, .string ⟨#[]⟩, .slice a n c, .slice none 0 0, .slice none 0 0]) ∧ Below w.heap.size w w' := by
  by_cases h0 : n = 0
  · subst h0
    rw [if_pos rfl]
    go_enter Try.func31, Try.ntmps31
    go_wp2_with fail
    refine bodyPost_ret (v := .agg #[.int .i64 0, .string ⟨#[]⟩, .slice none 0 0, .slice none 0 0, .slice none 0 0]) (by simp [results, Try.results31, go_sem]) rfl ⟨rfl, ?_⟩
    go_grown
  · rw [if_neg h0]
    have h0' : (((n : Nat) : Int) == 0) = false := by rw [beq_eq_false_iff_ne]; omega
    go_enter Try.func31, Try.ntmps31
    go_wp2_with fail
    refine bodyPost_ret (v := .agg #[.int .i64 k, .string ⟨#[]⟩, .slice a n c, .slice none 0 0, .slice none 0 0]) (by simp [results, Try.results31, go_sem]) rfl ⟨rfl, ?_⟩
    go_grown
end Go.Proofs.Ytolpmaapdkhigac
