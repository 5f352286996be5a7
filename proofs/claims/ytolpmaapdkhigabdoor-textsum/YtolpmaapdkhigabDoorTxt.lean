/- WALKS of what texts can do. -/
import Derived.Test.YtolpmaapdkhigabDoorCom
import Derived.Test.YtolpmaapdkhigabDoorNum
import Derived.WalkSpells
import Derived.Handy
namespace Go.Proofs.YtolpmaapdkhigabDoor
open Go.RowKit

def tval (t : ByteArray) : Value := .agg #[.int .i64 1, .string t, .slice none 0 0, .slice none 0 0, .slice none 0 0]
def zval : Value := .agg #[.int .i64 0, .string ⟨#[]⟩, .slice none 0 0, .slice none 0 0, .slice none 0 0]
def Itm.txt (t : ByteArray) : Itm := ⟨1, t, [], [], []⟩
theorem tval_is (w : World) (t : ByteArray) (ht : t.size ≤ maxLen) : ItemIs w (tval t) (Itm.txt t) :=
  ⟨⟨none, 0, none, 0, none, 0, rfl, .inl rfl, .inl rfl, .inl rfl⟩, ht, by simp [Itm.txt], by simp [Itm.txt], by simp [Itm.txt], by simp [Itm.txt], by simp [Itm.txt], by simp [Itm.txt]⟩
theorem zval_is (w : World) : ItemIs w zval Itm.none :=
  ⟨⟨none, 0, none, 0, none, 0, rfl, .inl rfl, .inl rfl, .inl rfl⟩, (show (0 : Nat) ≤ maxLen by simp), by simp [Itm.none], by simp [Itm.none], by simp [Itm.none], by simp [Itm.none], by simp [Itm.none], by simp [Itm.none]⟩

theorem asI_text {x : Itm} (h : asI x 1 = 0) : x.t.size ≤ 60 ∧ (x.k = 0 ∧ x.t.toList = [] ∨ x.k = 1) := by
  unfold asI at h
  split at h
  · rename_i hn
    simp only [Itm.isNone, decide_eq_true_eq] at hn
    have : x.t.size = 0 := by
      have h2 := congrArg List.length hn.2.1
      rw [ByteArray.toList_eq, size_list] at h2
      exact h2
    exact ⟨by omega, .inl ⟨hn.1, hn.2.1⟩⟩
  · split at h
    · rename_i h1; exact absurd h h1
    · rename_i h1
      split at h
      · cases h
      · rename_i hk
        have hk1 : x.k = 1 := by
          rcases Int.lt_trichotomy x.k 1 with h' | h' | h'
          · exact absurd (by omega) hk
          · exact h'
          · exact absurd (by omega) hk
        refine ⟨?_, .inr hk1⟩
        have h2 : chkI x = 0 := by
          rcases Classical.em (chkI x = 0) with h' | h'
          · exact h'
          · exact absurd h' h1
        unfold chkI at h2
        rw [if_neg (by omega)] at h2
        split at h2
        · cases h2
        · rw [if_neg (by omega), if_neg (by omega), if_neg (by omega), if_neg (by omega)] at h2
          split at h2
          · cases h2
          · rename_i hl
            simp only [longT, decide_eq_true_eq] at hl
            omega
theorem txt_as (t : ByteArray) (ht : t.size ≤ 60) : asI (Itm.txt t) 1 = 0 := by
  have h1 : chkI (Itm.txt t) = 0 := by
    unfold chkI
    rw [if_neg (by simp [Itm.txt]), if_neg (by simp [Itm.txt, otherI]), if_neg (by simp [Itm.txt]), if_neg (by simp [Itm.txt]), if_neg (by simp [Itm.txt]), if_neg (by simp [Itm.txt]), if_neg (show ¬ longT (Itm.txt t).t = true from (show ¬ longT t = true by unfold longT; simp; omega))]
  unfold asI
  split
  · rfl
  · rw [if_neg (by simp [h1]), if_neg (by simp [Itm.txt])]

/-- what comes of Append -/
def appE (x : Itm) (s : ByteArray) : Int := if asI x 1 ≠ 0 then asI x 1 else if 60 < x.t.size + s.size then 2 else 0
def appV (x : Itm) (s : ByteArray) : Value := if appE x s = 0 then .tuple #[tval (x.t ++ s), .int .i64 ((x.t.size + s.size : Nat)), .int .i64 0] else .tuple #[zval, .int .i64 0, .int .i64 (appE x s)]

set_option maxRecDepth 100000 in
set_option maxHeartbeats 2000000 in
theorem append_any (v : Value) (x : Itm) (s : ByteArray) (w : World) (h : ItemIs w v x) (hs : s.size ≤ 281474976710656) :
    Calls Tryd.prog 6 #[v, .string s] w fun e w' => e = .returned (appV x s) ∧ Below w.heap.size w w' := by
  have HC : Hid (∀ W, Below w.heap.size w W → Calls Tryd.prog 19 #[v, .int .i64 1] W fun e w' => e = .returned (.int .i64 (asI x 1)) ∧ Below W.heap.size W w') := fun W hW => common_any v x 1 W (h.below hW)
  obtain ⟨⟨a1, c1, a2, c2, a3, c3, rfl, -, -, -⟩, tz, -, -, -, -, -, -⟩ := h
  by_cases h0 : asI x 1 = 0
  · have hx60 := (asI_text h0).1
    by_cases hm : 60 < x.t.size + s.size
    · have he : appE x s = 2 := by rw [appE, if_neg (by simp [h0]), if_pos hm]
      have hv : appV x s = .tuple #[zval, .int .i64 0, .int .i64 2] := by rw [appV, he, if_neg (by decide)]
      rw [hv]
      have hm' : (60 : Int) < ((x.t.size : Nat) : Int) + ((s.size : Nat) : Int) := by omega
      rw [h0] at HC
      clear he hv h0
      generalize x.t = t at *
      generalize x.k = k at *
      generalize x.l.length = n1 at *
      generalize x.p.length = n2 at *
      generalize x.s.length = n3 at *
      go_enter Tryd.func6, Tryd.ntmps6
      go_wp2_with fail
      refine (HC.out _ (((Below.refl _ w).alloc (Nat.le_refl _) _).alloc (by simp) _)).mono ?_
      rintro e w1 ⟨rfl, hb1⟩
      obtain ⟨hc, hf⟩ := bcell hb1
      have hz : w.heap.size + 1 < w1.heap.size := by have := hb1.size; simp at this; omega
      have hB1 : Below w.heap.size w w1 := (((Below.refl _ w).alloc (Nat.le_refl _) _).alloc (by simp) _).trans (hb1.mono (by simp; omega))
      go_wp2_with fail
      refine bodyPost_ret (v := .tuple #[zval, .int .i64 0, .int .i64 2]) (by simp [results, Tryd.results6, go_sem, hc, zval]) rfl ⟨rfl, ?_⟩
      go_grown
    · have he : appE x s = 0 := by rw [appE, if_neg (by simp [h0]), if_neg hm]
      have hv : appV x s = .tuple #[tval (x.t ++ s), .int .i64 (((x.t.size : Nat) : Int) + ((s.size : Nat) : Int)), .int .i64 0] := by rw [appV, if_pos he]; simp
      rw [hv]
      have hm' : ¬ (60 : Int) < ((x.t.size : Nat) : Int) + ((s.size : Nat) : Int) := by omega
      have hm2 : ¬ 9223372036854775807 < x.t.size + s.size := by omega
      rw [h0] at HC
      clear he hv h0
      generalize x.t = t at *
      generalize x.k = k at *
      generalize x.l.length = n1 at *
      generalize x.p.length = n2 at *
      generalize x.s.length = n3 at *
      go_enter Tryd.func6, Tryd.ntmps6
      go_wp2_with fail
      refine (HC.out _ (((Below.refl _ w).alloc (Nat.le_refl _) _).alloc (by simp) _)).mono ?_
      rintro e w1 ⟨rfl, hb1⟩
      obtain ⟨hc, hf⟩ := bcell hb1
      have hz : w.heap.size + 1 < w1.heap.size := by have := hb1.size; simp at this; omega
      have hB1 : Below w.heap.size w w1 := (((Below.refl _ w).alloc (Nat.le_refl _) _).alloc (by simp) _).trans (hb1.mono (by simp; omega))
      go_wp2_with fail
      refine bodyPost_ret (v := .tuple #[tval (t ++ s), .int .i64 (((t.size : Nat) : Int) + ((s.size : Nat) : Int)), .int .i64 0]) (by simp [results, Tryd.results6, go_sem, hc, tval]) rfl ⟨rfl, ?_⟩
      go_grown
  · have he : appE x s = asI x 1 := by rw [appE, if_pos h0]
    have hv : appV x s = .tuple #[zval, .int .i64 0, .int .i64 (asI x 1)] := by rw [appV, he, if_neg h0]
    have h0' : (asI x 1 == 0) = false := by rw [beq_eq_false_iff_ne]; exact h0
    rw [hv]
    clear he hv
    generalize asI x 1 = E at *
    generalize x.t = t at *
    generalize x.k = k at *
    generalize x.l.length = n1 at *
    generalize x.p.length = n2 at *
    generalize x.s.length = n3 at *
    go_enter Tryd.func6, Tryd.ntmps6
    go_wp2_with fail
    refine (HC.out _ (((Below.refl _ w).alloc (Nat.le_refl _) _).alloc (by simp) _)).mono ?_
    rintro e w1 ⟨rfl, hb1⟩
    obtain ⟨hc, hf⟩ := bcell hb1
    have hz : w.heap.size + 1 < w1.heap.size := by have := hb1.size; simp at this; omega
    have hB1 : Below w.heap.size w w1 := (((Below.refl _ w).alloc (Nat.le_refl _) _).alloc (by simp) _).trans (hb1.mono (by simp; omega))
    go_wp2_with fail
    refine bodyPost_ret (v := .tuple #[zval, .int .i64 0, .int .i64 E]) (by simp [results, Tryd.results6, go_sem, hc, zval]) rfl ⟨rfl, ?_⟩
    go_grown

def rngV (x : Itm) (f t : Int) : Value := if asI x 1 = 0 then .tuple #[.string (x.t.extract (place1 x.t.size f t) (place2 x.t.size f t)), .int .i64 0] else .tuple #[.string ⟨#[]⟩, .int .i64 (asI x 1)]
set_option maxRecDepth 100000 in
set_option maxHeartbeats 2000000 in
theorem range_any (v : Value) (x : Itm) (from_ to_ : Int) (w : World) (h : ItemIs w v x) (hf : -9223372036854775808 ≤ from_) (ht : -9223372036854775808 ≤ to_) (hf2 : from_ ≤ 9223372036854775807) (ht2 : to_ ≤ 9223372036854775807) :
    Calls Tryd.prog 9 #[v, .int .i64 from_, .int .i64 to_] w fun e w' => e = .returned (rngV x from_ to_) ∧ Below w.heap.size w w' := by
  have HC : Hid (∀ W, Below w.heap.size w W → Calls Tryd.prog 19 #[v, .int .i64 1] W fun e w' => e = .returned (.int .i64 (asI x 1)) ∧ Below W.heap.size W w') := fun W hW => common_any v x 1 W (h.below hW)
  obtain ⟨⟨a1, c1, a2, c2, a3, c3, rfl, -, -, -⟩, tz, -, -, -, -, -, -⟩ := h
  by_cases h0 : asI x 1 = 0
  · have hx60 := (asI_text h0).1
    have hv : rngV x from_ to_ = .tuple #[.string (x.t.extract (place1 x.t.size from_ to_) (place2 x.t.size from_ to_)), .int .i64 0] := by rw [rngV, if_pos h0]
    rw [hv]
    rw [h0] at HC
    clear hv h0
    obtain ⟨p1, p2⟩ := place_le x.t.size from_ to_
    have HP : Hid (∀ W, Calls Tryd.prog 23 #[.int .i64 x.t.size, .int .i64 from_, .int .i64 to_] W fun e w' => e = .returned (.tuple #[.int .i64 (place1 x.t.size from_ to_), .int .i64 (place2 x.t.size from_ to_)]) ∧ w' = W) := fun W => places_any _ _ _ W (by omega) hf ht hf2 ht2
    generalize place1 x.t.size from_ to_ = P1 at *
    generalize place2 x.t.size from_ to_ = P2 at *
    generalize x.t = t at *
    generalize x.k = k at *
    generalize x.l.length = n1 at *
    generalize x.p.length = n2 at *
    generalize x.s.length = n3 at *
    go_enter Tryd.func9, Tryd.ntmps9
    go_wp2_with fail
    refine (HC.out _ ((Below.refl _ w).alloc (Nat.le_refl _) _)).mono ?_
    rintro e w1 ⟨rfl, hb1⟩
    obtain ⟨hc, hf⟩ := bcell hb1
    have hz : w.heap.size < w1.heap.size := by have := hb1.size; simp at this; omega
    have hB1 : Below w.heap.size w w1 := ((Below.refl _ w).alloc (Nat.le_refl _) _).trans (hb1.mono (by simp))
    go_wp2_with fail
    refine (HP.out _).mono ?_
    rintro e w2 ⟨rfl, rfl⟩
    go_wp2_with fail
    go_ret2
    exact ⟨rfl, hB1⟩
  · have hv : rngV x from_ to_ = .tuple #[.string ⟨#[]⟩, .int .i64 (asI x 1)] := by rw [rngV, if_neg h0]
    have h0' : (asI x 1 == 0) = false := by rw [beq_eq_false_iff_ne]; exact h0
    rw [hv]
    clear hv
    generalize asI x 1 = E at *
    generalize x.t = t at *
    generalize x.k = k at *
    generalize x.l.length = n1 at *
    generalize x.p.length = n2 at *
    generalize x.s.length = n3 at *
    go_enter Tryd.func9, Tryd.ntmps9
    go_wp2_with fail
    refine (HC.out _ ((Below.refl _ w).alloc (Nat.le_refl _) _)).mono ?_
    rintro e w1 ⟨rfl, hb1⟩
    obtain ⟨hc, hf⟩ := bcell hb1
    have hz : w.heap.size < w1.heap.size := by have := hb1.size; simp at this; omega
    have hB1 : Below w.heap.size w w1 := ((Below.refl _ w).alloc (Nat.le_refl _) _).trans (hb1.mono (by simp))
    go_wp2_with fail
    go_ret2
    exact ⟨rfl, hB1⟩
end Go.Proofs.YtolpmaapdkhigabDoor
