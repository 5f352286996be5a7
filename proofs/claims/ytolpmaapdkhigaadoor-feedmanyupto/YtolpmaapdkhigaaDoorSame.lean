/- WALKS of SameTexts and SameCommands. -/
import Derived.Test.YtolpmaapdkhigaaDoorFeed2
import Derived.Test.YtolpmaapdkhigaaDoorWords2
namespace Go.Proofs.YtolpmaapdkhigaaDoor
open Go.RowKit

/-- a slice of texts, as it can be read -/
def TextsAt (w : World) (v : Value) (xs : List (List UInt8)) : Prop :=
  ∃ a cap, v = .slice a xs.length cap ∧ (xs = [] ∨ ∃ b off, a = some ⟨b, off, none⟩ ∧ ∀ i (h : i < xs.length), w.cell? ⟨b, off + i, none⟩ = some (.string ⟨xs[i].toArray⟩))
/-- a slice of commands, as it can be read -/
def CmdsAt (w : World) (v : Value) (L : List (List (List UInt8))) : Prop :=
  ∃ a cap, v = .slice a L.length cap ∧ (L = [] ∨ ∃ b off, a = some ⟨b, off, none⟩ ∧ ∀ i (h : i < L.length), ∃ u, w.cell? ⟨b, off + i, none⟩ = some u ∧ TextsAt w u L[i])

theorem TextsAt.kept {w w' : World} {v : Value} {xs : List (List UInt8)} (h : TextsAt w v xs) (hk : Below w.heap.size w w') : TextsAt w' v xs := by
  obtain ⟨a, cap, rfl, h⟩ := h
  refine ⟨a, cap, rfl, ?_⟩
  rcases h with h | ⟨b, off, ha, hc⟩
  · exact .inl h
  · exact .inr ⟨b, off, ha, fun i hi => (Kept.of_below hk (fun _ => False)).cell' (hc i hi) (fun e => e)⟩
theorem CmdsAt.kept {w w' : World} {v : Value} {L : List (List (List UInt8))} (h : CmdsAt w v L) (hk : Below w.heap.size w w') : CmdsAt w' v L := by
  obtain ⟨a, cap, rfl, h⟩ := h
  refine ⟨a, cap, rfl, ?_⟩
  rcases h with h | ⟨b, off, ha, hc⟩
  · exact .inl h
  · refine .inr ⟨b, off, ha, fun i hi => ?_⟩
    obtain ⟨u, h1, h2⟩ := hc i hi
    exact ⟨u, (Kept.of_below hk (fun _ => False)).cell' h1 (fun e => e), h2.kept hk⟩

theorem texts_of_own {w : World} {base : Nat} {v : Value} {xs : List (List UInt8)} (h : w.ownsRow base 9 1 v xs.length (xs.map str)) : TextsAt w v xs := by
  rcases h.2 with ⟨rfl, h0⟩ | ⟨g, cap, cur, rfl, _⟩
  · refine ⟨none, 0, by rw [h0], .inl (List.eq_nil_of_length_eq_zero h0)⟩
  · refine ⟨_, cap, rfl, .inr ⟨g, 0, rfl, fun i hi => ?_⟩⟩
    have := h.cellAt i (by omega)
    rw [Nat.zero_add, this]
    simp [str, hi]
theorem Cmds.at_ {w : World} {base : Nat} {V : Value} {L : List (List (List UInt8))} (h : Cmds base w V L) : CmdsAt w V L := by
  obtain ⟨vs, h1, h2⟩ := h
  rcases h1.2 with ⟨rfl, h0⟩ | ⟨g, cap, cur, rfl, _⟩
  · exact ⟨none, 0, by rw [h0], .inl (List.eq_nil_of_length_eq_zero h0)⟩
  · refine ⟨_, cap, rfl, .inr ⟨g, 0, rfl, fun i hi => ?_⟩⟩
    obtain ⟨v, h3, h4⟩ := h2 i hi
    have := h1.cellAt i (by omega)
    exact ⟨v, by rw [Nat.zero_add, this, h3], texts_of_own h4⟩

theorem drewN_add (w : World) (a b : Nat) : (w.drewN a).drewN b = w.drewN (a + b) := by
  simp [World.drewN, Nat.add_assoc]

set_option maxRecDepth 100000 in
set_option maxHeartbeats 1000000 in
theorem sameTexts_len (a b : Option Addr) (n m c d : Nat) (w : World) (h : n ≠ m) :
    Calls Tryd.prog 36 #[.slice a n c, .slice b m d] w fun e w' => e = .returned (.bool false) ∧ w' = w := by
  have h0 : ((n : Int) != m) = true := by rw [bne_iff_ne]; omega
  go_enter Tryd.func36, Tryd.ntmps36
  go_wp2
  go_ret
  exact ⟨rfl, rfl⟩

set_option maxRecDepth 100000 in
set_option maxHeartbeats 1000000 in
theorem sameTexts_nil (a b : Option Addr) (c d : Nat) (w : World) :
    Calls Tryd.prog 36 #[.slice a 0 c, .slice b 0 d] w fun e w' => e = .returned (.bool true) ∧ w' = w := by
  go_enter Tryd.func36, Tryd.ntmps36
  go_wp2
  go_loop [5] (fun i => i = .int .i64 0) (fun _ => 0)
  case atStart => rfl
  case round =>
    subst hrel
    go_wp2
    go_ret
    exact ⟨rfl, rfl⟩

set_option maxRecDepth 100000 in
set_option maxHeartbeats 1000000 in
theorem sameTexts_loop (b1 o1 b2 o2 c d : Nat) (xs ys : List (List UInt8)) (w : World) (hl : xs.length = ys.length) (hmax : ys.length ≤ 1000000000)
    (hx : ∀ i (h : i < xs.length), w.cell? ⟨b1, o1 + i, none⟩ = some (.string ⟨xs[i].toArray⟩)) (hy : ∀ i (h : i < ys.length), w.cell? ⟨b2, o2 + i, none⟩ = some (.string ⟨ys[i].toArray⟩)) :
    Calls Tryd.prog 36 #[.slice (some ⟨b1, o1, none⟩) ys.length c, .slice (some ⟨b2, o2, none⟩) ys.length d] w fun e w' => e = .returned (.bool (decide (xs = ys))) ∧ ∃ m, w' = w.drewN m := by
  have h0 : ((ys.length : Int) != ys.length) = false := by simp
  go_enter Tryd.func36, Tryd.ntmps36
  go_wp2
  go_loopw [5] (fun i wr => ∃ k m : Nat, k ≤ ys.length ∧ i = .int .i64 k ∧ wr = w.drewN m ∧ Hid (xs.take k = ys.take k)) (fun i _ => ys.length - (intOf i).toNat)
  case atStart => exact ⟨0, 0, Nat.zero_le _, rfl, rfl, by simp [Hid]⟩
  case round =>
    obtain ⟨k, m, hk, rfl, rfl, HE⟩ := hrel
    by_cases hlt : k < ys.length
    · have e1 := hx k (by omega)
      have e2 := hy k hlt
      have HX := hide hx
      have HY := hide hy
      clear hx hy
      go_wp2
      go_quiet (fail)
      go_wp2
      · have hne : xs[k] ≠ ys[k] := by
          have h1 : (!xs[k] == ys[k]) = true := by assumption
          intro e
          rw [e] at h1
          simp at h1
        go_ret
        refine ⟨?_, m + nq, drewN_add _ _ _⟩
        have hd : decide (xs = ys) = false := decide_eq_false (fun e => hne (by subst e; rfl))
        rw [hd]
        rfl
      · have heq : xs[k] = ys[k] := by
          have h1 : (!xs[k] == ys[k]) = false := by assumption
          simpa using h1
        refine ⟨⟨k + 1, m + nq, by omega, by go_num, rfl, ?_⟩, by simp [intOf]; omega⟩
        show xs.take (k + 1) = ys.take (k + 1)
        rw [List.take_succ_eq_append_getElem (by omega), List.take_succ_eq_append_getElem hlt, HE.out, heq]
    · have hd : decide (xs = ys) = true := by
        have h1 := HE.out
        rw [List.take_of_length_le (by omega), List.take_of_length_le (by omega)] at h1
        exact decide_eq_true h1
      have HD := hide hd
      clear hd hx hy
      go_wp2
      go_ret
      rw [HD.out]
      exact ⟨rfl, m, rfl⟩

theorem sameTexts_any (u v : Value) (xs ys : List (List UInt8)) (w : World) (hu : TextsAt w u xs) (hv : TextsAt w v ys) (hmax : ys.length ≤ 1000000000) :
    Calls Tryd.prog 36 #[u, v] w fun e w' => e = .returned (.bool (decide (xs = ys))) ∧ ∃ m, w' = w.drewN m := by
  obtain ⟨a, c, rfl, hu⟩ := hu
  obtain ⟨b, d, rfl, hv⟩ := hv
  by_cases hl : xs.length = ys.length
  · by_cases h0 : ys.length = 0
    · have hy : ys = [] := List.eq_nil_of_length_eq_zero h0
      have hx : xs = [] := List.eq_nil_of_length_eq_zero (by omega)
      subst hx hy
      refine (sameTexts_nil a b c d w).mono ?_
      rintro e w' ⟨rfl, rfl⟩
      exact ⟨by simp, 0, rfl⟩
    · rcases hu with hu | ⟨b1, o1, rfl, hx⟩
      · subst hu; simp at hl; omega
      · rcases hv with hv | ⟨b2, o2, rfl, hy⟩
        · subst hv; simp at h0
        · rw [hl]
          exact sameTexts_loop b1 o1 b2 o2 c d xs ys w hl hmax hx hy
  · refine (sameTexts_len a b _ _ c d w hl).mono ?_
    rintro e w' ⟨rfl, rfl⟩
    refine ⟨?_, 0, rfl⟩
    rw [decide_eq_false (fun e => hl (by rw [e]))]

set_option maxRecDepth 100000 in
set_option maxHeartbeats 1000000 in
theorem sameCmds_len (a b : Option Addr) (n m c d : Nat) (w : World) (h : n ≠ m) :
    Calls Tryd.prog 17 #[.slice a n c, .slice b m d] w fun e w' => e = .returned (.bool false) ∧ w' = w := by
  have h0 : ((n : Int) != m) = true := by rw [bne_iff_ne]; omega
  go_enter Tryd.func17, Tryd.ntmps17
  go_wp2
  go_ret
  exact ⟨rfl, rfl⟩

set_option maxRecDepth 100000 in
set_option maxHeartbeats 1000000 in
theorem sameCmds_nil (a b : Option Addr) (c d : Nat) (w : World) :
    Calls Tryd.prog 17 #[.slice a 0 c, .slice b 0 d] w fun e w' => e = .returned (.bool true) ∧ w' = w := by
  go_enter Tryd.func17, Tryd.ntmps17
  go_wp2
  go_loop [5] (fun i => i = .int .i64 0) (fun _ => 0)
  case atStart => rfl
  case round =>
    subst hrel
    go_wp2
    go_ret
    exact ⟨rfl, rfl⟩

theorem TextsAt.drewN {w : World} {v : Value} {xs : List (List UInt8)} (h : TextsAt w v xs) (n : Nat) : TextsAt (w.drewN n) v xs := h

set_option maxRecDepth 100000 in
set_option maxHeartbeats 1000000 in
theorem sameCmds_loop (b1 o1 b2 o2 c d : Nat) (xs ys : List (List (List UInt8))) (w : World) (hl : xs.length = ys.length) (hmax : ys.length ≤ 1000000000) (hmy : ∀ y ∈ ys, y.length ≤ 1000000000)
    (hx : ∀ i (h : i < xs.length), ∃ u, w.cell? ⟨b1, o1 + i, none⟩ = some u ∧ TextsAt w u xs[i]) (hy : ∀ i (h : i < ys.length), ∃ u, w.cell? ⟨b2, o2 + i, none⟩ = some u ∧ TextsAt w u ys[i]) :
    Calls Tryd.prog 17 #[.slice (some ⟨b1, o1, none⟩) ys.length c, .slice (some ⟨b2, o2, none⟩) ys.length d] w fun e w' => e = .returned (.bool (decide (xs = ys))) ∧ ∃ m, w' = w.drewN m := by
  have h0 : ((ys.length : Int) != ys.length) = false := by simp
  go_enter Tryd.func17, Tryd.ntmps17
  go_wp2
  go_loopw [5] (fun i wr => ∃ k m : Nat, k ≤ ys.length ∧ i = .int .i64 k ∧ wr = w.drewN m ∧ Hid (xs.take k = ys.take k)) (fun i _ => ys.length - (intOf i).toNat)
  case atStart => exact ⟨0, 0, Nat.zero_le _, rfl, rfl, by simp [Hid]⟩
  case round =>
    obtain ⟨k, m, hk, rfl, rfl, HE⟩ := hrel
    by_cases hlt : k < ys.length
    · obtain ⟨u, e1, t1⟩ := hx k (by omega)
      obtain ⟨v, e2, t2⟩ := hy k hlt
      have HX := hide hx
      have HY := hide hy
      have HM := hide (hmy _ (List.getElem_mem hlt))
      clear hx hy hmy
      have e1' : (w.drewN m).cell? ⟨b1, o1 + k, none⟩ = some u := e1
      have e2' : (w.drewN m).cell? ⟨b2, o2 + k, none⟩ = some v := e2
      have hfin : Hid (∀ n, ∃ m', (w.drewN m).drewN n = w.drewN m') := fun n => ⟨m + n, drewN_add _ _ _⟩
      clear e1 e2
      cases hd : decide (xs[k] = ys[k]) with
      | true =>
        have heq : xs[k] = ys[k] := of_decide_eq_true hd
        have HEQ := hide heq
        have hcall : ∀ j, Calls Tryd.prog 36 #[u, v] ((w.drewN m).drewN j) fun e w' => e = .returned (.bool true) ∧ ∃ m', w' = ((w.drewN m).drewN j).drewN m' := fun j => by
          have := sameTexts_any u v xs[k] ys[k] ((w.drewN m).drewN j) t1 t2 HM.out
          rw [hd] at this
          exact this
        have HC := hide hcall
        obtain ⟨a1, c1, rfl, -⟩ := t1
        obtain ⟨a2, c2, rfl, -⟩ := t2
        clear hcall heq hd
        generalize w.drewN m = W at *
        go_wp2
        go_quiet ((go_at_call 36; exact Calls.quiet_of (HC.out _)))
        go_wp2
        go_roundw
        case rel =>
          obtain ⟨m', hm'⟩ := hfin.out nq
          refine ⟨k + 1, m', by omega, by go_num, hm', ?_⟩
          show xs.take (k + 1) = ys.take (k + 1)
          rw [List.take_succ_eq_append_getElem (by omega), List.take_succ_eq_append_getElem hlt, HE.out, HEQ.out]
        case measure => simp [intOf]; omega
      | false =>
        have hne : ¬ xs[k] = ys[k] := of_decide_eq_false hd
        have HD : Hid (decide (xs = ys) = false) := decide_eq_false (fun e => hne (by subst e; rfl))
        have hcall : ∀ j, Calls Tryd.prog 36 #[u, v] ((w.drewN m).drewN j) fun e w' => e = .returned (.bool false) ∧ ∃ m', w' = ((w.drewN m).drewN j).drewN m' := fun j => by
          have := sameTexts_any u v xs[k] ys[k] ((w.drewN m).drewN j) t1 t2 HM.out
          rw [hd] at this
          exact this
        have HC := hide hcall
        obtain ⟨a1, c1, rfl, -⟩ := t1
        obtain ⟨a2, c2, rfl, -⟩ := t2
        clear hcall hne hd
        generalize w.drewN m = W at *
        go_wp2
        go_quiet ((go_at_call 36; exact Calls.quiet_of (HC.out _)))
        go_wp2
        go_ret
        rw [HD.out]
        exact ⟨rfl, hfin.out nq⟩
    · have hd : decide (xs = ys) = true := by
        have h1 := HE.out
        rw [List.take_of_length_le (by omega), List.take_of_length_le (by omega)] at h1
        exact decide_eq_true h1
      have HD := hide hd
      clear hd hx hy
      go_wp2
      go_ret
      rw [HD.out]
      exact ⟨rfl, m, rfl⟩

theorem sameCmds_any (u v : Value) (xs ys : List (List (List UInt8))) (w : World) (hu : CmdsAt w u xs) (hv : CmdsAt w v ys) (hmax : ys.length ≤ 1000000000) (hmy : ∀ y ∈ ys, y.length ≤ 1000000000) :
    Calls Tryd.prog 17 #[u, v] w fun e w' => e = .returned (.bool (decide (xs = ys))) ∧ ∃ m, w' = w.drewN m := by
  obtain ⟨a, c, rfl, hu⟩ := hu
  obtain ⟨b, d, rfl, hv⟩ := hv
  by_cases hl : xs.length = ys.length
  · by_cases h0 : ys.length = 0
    · have hy : ys = [] := List.eq_nil_of_length_eq_zero h0
      have hx : xs = [] := List.eq_nil_of_length_eq_zero (by omega)
      subst hx hy
      refine (sameCmds_nil a b c d w).mono ?_
      rintro e w' ⟨rfl, rfl⟩
      exact ⟨by simp, 0, rfl⟩
    · rcases hu with hu | ⟨b1, o1, rfl, hx⟩
      · subst hu; simp at hl; omega
      · rcases hv with hv | ⟨b2, o2, rfl, hy⟩
        · subst hv; simp at h0
        · rw [hl]
          exact sameCmds_loop b1 o1 b2 o2 c d xs ys w hl hmax hmy hx hy
  · refine (sameCmds_len a b _ _ c d w hl).mono ?_
    rintro e w' ⟨rfl, rfl⟩
    refine ⟨?_, 0, rfl⟩
    rw [decide_eq_false (fun e => hl (by rw [e]))]
end Go.Proofs.YtolpmaapdkhigaaDoor
