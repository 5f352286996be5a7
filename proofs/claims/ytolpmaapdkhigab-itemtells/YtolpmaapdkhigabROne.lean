/- WALKS of the reference's bytes: one, and what is taken. -/
import Derived.Test.YtolpmaapdkhigabIDec3
import Derived.Laws.BytesArg
import Derived.Handy
namespace Go.Proofs.Ytolpmaapdkhigab
open Go.RowKit

set_option maxRecDepth 100000 in
theorem refOneB_any (n : Int) (w : World) (h0 : 0 ≤ n) (h1 : n ≤ 255) : Calls Try.prog 32 #[.int .i64 n] w fun e w' => e = .returned (.string ⟨#[UInt8.ofNat n.toNat]⟩) ∧ Below w.heap.size w w' := by
  have hcv := run_convert_bytes_arg (P := Try.prog) (w := w.alloc (.cells #[.int .u8 n] 5)) 46 5 Try.underlying46 Try.underlying5 w.heap.size 0 1 1 [n] rfl (fun i hi => by
    obtain rfl : i = 0 := by omega
    simp [go_sem]) 9 Try.underlying9
  rw [show strOfNums [n] = ⟨#[UInt8.ofNat n.toNat]⟩ from rfl] at hcv
  go_enter Try.func32, Try.ntmps32
  go_wp2_with fail
  go_ret
  exact ⟨rfl, (Below.refl _ _).alloc (Nat.le_refl _) _⟩
/-- a taker over bytes that are left; or that has failed -/
structure TakeAt (b : Nat) (s : ByteArray) (bad : Bool) (w : World) : Prop where
  c0 : w.cell? ⟨b, 0, none⟩ = some (.string s)
  c1 : w.cell? ⟨b, 1, none⟩ = some (.bool bad)
  f0 : w.frozen? ⟨b, 0, none⟩ = false
  f1 : w.frozen? ⟨b, 1, none⟩ = false
  z : s.size ≤ 281474976710656
theorem TakeAt.set0 {b : Nat} {s : ByteArray} {bad : Bool} {w : World} (h : TakeAt b s bad w) (t : ByteArray) (ht : t.size ≤ 281474976710656) : TakeAt b t bad (w.setCell ⟨b, 0, none⟩ (.string t)) :=
  ⟨World.cell?_setCell_same _ _ _ h.c0, (World.cell?_setCell_other _ _ _ _ (by simp)).trans h.c1, by simpa using h.f0, by simpa using h.f1, ht⟩
theorem TakeAt.set1 {b : Nat} {s : ByteArray} {bad : Bool} {w : World} (h : TakeAt b s bad w) (c : Bool) : TakeAt b s c (w.setCell ⟨b, 1, none⟩ (.bool c)) :=
  ⟨(World.cell?_setCell_other _ _ _ _ (by simp)).trans h.c0, World.cell?_setCell_same _ _ _ h.c1, by simpa using h.f0, by simpa using h.f1, h.z⟩
set_option maxRecDepth 100000 in
set_option maxHeartbeats 1000000 in
theorem takerText_ok (b : Nat) (l : List UInt8) (n : Nat) (w : World) (h : TakeAt b ⟨l.toArray⟩ false w) (hn : n ≤ l.length) :
    Calls Try.prog 34 #[.pointer (some ⟨b, 0, none⟩), .int .i64 n] w fun e w' => e = .returned (.string ⟨(l.take n).toArray⟩) ∧ TakeAt b ⟨(l.drop n).toArray⟩ false w' ∧ Kept (one b) w w' := by
  have HT := hide h
  obtain ⟨c0, c1, f0, f1, z⟩ := h
  have z' := z
  rw [size_mk] at z'
  go_enter Try.func34, Try.ntmps34
  go_wp2_with fail
  go_ret
  have e1 : (⟨l.toArray⟩ : ByteArray).extract 0 n = ⟨(l.take n).toArray⟩ := by
    rw [extract_list, toList_mk, List.drop_zero, Nat.sub_zero]
  have e2 : (⟨l.toArray⟩ : ByteArray).extract n l.length = ⟨(l.drop n).toArray⟩ := by
    rw [extract_list, toList_mk, List.take_of_length_le (by simp)]
  rw [e1]
  refine ⟨rfl, ?_, (Kept.refl _ _).set1 _ _⟩
  rw [e2]
  exact HT.out.set0 _ (by rw [size_mk, List.length_drop]; omega)
set_option maxRecDepth 100000 in
set_option maxHeartbeats 1000000 in
theorem takerText_short (b : Nat) (l : List UInt8) (n : Nat) (w : World) (h : TakeAt b ⟨l.toArray⟩ false w) (hn : l.length < n) :
    Calls Try.prog 34 #[.pointer (some ⟨b, 0, none⟩), .int .i64 n] w fun e w' => e = .returned (.string ⟨#[]⟩) ∧ TakeAt b ⟨l.toArray⟩ true w' ∧ Kept (one b) w w' := by
  have HT := hide h
  obtain ⟨c0, c1, f0, f1, z⟩ := h
  have z' := z
  rw [size_mk] at z'
  go_enter Try.func34, Try.ntmps34
  go_wp2_with fail
  go_ret
  exact ⟨rfl, HT.out.set1 true, (Kept.refl _ _).set1 _ _⟩
set_option maxRecDepth 100000 in
set_option maxHeartbeats 1000000 in
theorem takerText_bad (b : Nat) (s : ByteArray) (n : Int) (w : World) (h : TakeAt b s true w) :
    Calls Try.prog 34 #[.pointer (some ⟨b, 0, none⟩), .int .i64 n] w fun e w' => e = .returned (.string ⟨#[]⟩) ∧ TakeAt b s true w' ∧ Kept (one b) w w' := by
  have HT := hide h
  obtain ⟨c0, c1, f0, f1, z⟩ := h
  go_enter Try.func34, Try.ntmps34
  go_wp2_with fail
  go_ret
  exact ⟨rfl, HT.out.set1 true, (Kept.refl _ _).set1 _ _⟩
set_option maxRecDepth 100000 in
set_option maxHeartbeats 1000000 in
theorem takerOne_ok (b : Nat) (c : UInt8) (r : List UInt8) (w : World) (h : TakeAt b ⟨(c :: r).toArray⟩ false w) :
    Calls Try.prog 33 #[.pointer (some ⟨b, 0, none⟩)] w fun e w' => e = .returned (.int .i64 c.toNat) ∧ TakeAt b ⟨r.toArray⟩ false w' ∧ Kept (one b) w w' := by
  have HT := hide (takerText_ok b (c :: r) 1 w h (by simp))
  have hc := byte_lt c
  have hc' : ((c.toNat : Nat) : Int) ≤ 255 := by omega
  clear h
  go_enter Try.func33, Try.ntmps33
  go_wp2_with fail
  refine HT.out.mono ?_
  rintro e w1 ⟨rfl, h1, hk1⟩
  have H1 := hide h1
  obtain ⟨c0, c1, f0, f1, z⟩ := h1
  have e0 : wrap64 ((((⟨#[c]⟩ : ByteArray)[0]'(Nat.zero_lt_one)).toNat : Nat) : Int) = ((c.toNat : Nat) : Int) := by
    show wrap64 ((c.toNat : Nat) : Int) = _
    unfold wrap64
    omega
  go_wp2_with fail
  go_ret
  exact ⟨congrArg (fun z => Ending.returned (.int .i64 z)) e0, H1.out, hk1⟩
set_option maxRecDepth 100000 in
set_option maxHeartbeats 1000000 in
theorem takerOne_bad (b : Nat) (s : ByteArray) (bad : Bool) (w : World) (h : TakeAt b s bad w) (hb : bad = true ∨ s = ⟨#[]⟩) :
    Calls Try.prog 33 #[.pointer (some ⟨b, 0, none⟩)] w fun e w' => e = .returned (.int .i64 0) ∧ TakeAt b s true w' ∧ Kept (one b) w w' := by
  have HT : Hid (Calls Try.prog 34 #[.pointer (some ⟨b, 0, none⟩), .int .i64 1] w fun e w' => e = .returned (.string ⟨#[]⟩) ∧ TakeAt b s true w' ∧ Kept (one b) w w') := by
    cases bad with
    | true => exact takerText_bad b s 1 w h
    | false =>
      obtain rfl := hb.resolve_left (by decide)
      exact takerText_short b [] 1 w h (by simp)
  clear h hb
  go_enter Try.func33, Try.ntmps33
  go_wp2_with fail
  refine HT.out.mono ?_
  rintro e w1 ⟨rfl, h1, hk1⟩
  have H1 := hide h1
  obtain ⟨c0, c1, f0, f1, z⟩ := h1
  go_wp2_with fail
  go_ret
  exact ⟨rfl, H1.out, hk1⟩
set_option maxRecDepth 100000 in
set_option maxHeartbeats 1000000 in
theorem takerTold_ok (b : Nat) (l : List UInt8) (t : ByteArray) (r : List UInt8) (w : World) (h : TakeAt b ⟨l.toArray⟩ false w) (hp : pText l = some (t, r)) :
    Calls Try.prog 35 #[.pointer (some ⟨b, 0, none⟩)] w fun e w' => e = .returned (.string t) ∧ TakeAt b ⟨r.toArray⟩ false w' ∧ Kept (one b) w w' := by
  cases l with
  | nil => cases hp
  | cons c q =>
    simp only [pText] at hp
    split at hp
    · cases hp
    rename_i hn
    injection hp with hp
    injection hp with e1 e2
    have HO := hide (takerOne_ok b c q w h)
    have HT : Hid (∀ W, TakeAt b ⟨q.toArray⟩ false W → Calls Try.prog 34 #[.pointer (some ⟨b, 0, none⟩), .int .i64 c.toNat] W fun e w' => e = .returned (.string t) ∧ TakeAt b ⟨r.toArray⟩ false w' ∧ Kept (one b) W w') := fun W hW => by
      have hh := takerText_ok b q c.toNat W hW (by omega)
      rw [e1, e2] at hh
      exact hh
    clear h e1 e2 hn
    go_enter Try.func35, Try.ntmps35
    go_wp2_with fail
    refine HO.out.mono ?_
    rintro e w1 ⟨rfl, h1, hk1⟩
    have H1 := hide h1
    clear h1
    go_wp2_with fail
    refine (HT.out _ H1.out).mono ?_
    rintro e w2 ⟨rfl, h2, hk2⟩
    have H2 := hide h2
    clear h2
    go_wp2_with fail
    go_ret
    exact ⟨rfl, H2.out, hk1.trans hk2⟩
set_option maxRecDepth 100000 in
set_option maxHeartbeats 1000000 in
/-- what cannot be told leaves a taker that has failed -/
theorem takerTold_bad (b : Nat) (s : ByteArray) (bad : Bool) (w : World) (h : TakeAt b s bad w) (hb : bad = true ∨ pText s.data.toList = none) :
    Calls Try.prog 35 #[.pointer (some ⟨b, 0, none⟩)] w fun e w' => e = .returned (.string ⟨#[]⟩) ∧ (∃ s', TakeAt b s' true w') ∧ Kept (one b) w w' := by
  have base : (bad = true ∨ s = ⟨#[]⟩) → Calls Try.prog 35 #[.pointer (some ⟨b, 0, none⟩)] w fun e w' => e = .returned (.string ⟨#[]⟩) ∧ (∃ s', TakeAt b s' true w') ∧ Kept (one b) w w' := fun hb => by
    have HO := hide (takerOne_bad b s bad w h hb)
    have HT := hide (takerText_bad b s 0)
    clear h hb
    go_enter Try.func35, Try.ntmps35
    go_wp2_with fail
    refine HO.out.mono ?_
    rintro e w1 ⟨rfl, h1, hk1⟩
    have H1 := hide h1
    clear h1
    go_wp2_with fail
    refine (HT.out _ H1.out).mono ?_
    rintro e w2 ⟨rfl, h2, hk2⟩
    have H2 := hide h2
    clear h2
    go_wp2_with fail
    go_ret
    exact ⟨rfl, ⟨_, H2.out⟩, hk1.trans hk2⟩
  cases bad with
  | true => exact base (.inl rfl)
  | false =>
    have hp := hb.resolve_left (by decide)
    have es : s = ⟨s.data.toList.toArray⟩ := by cases s; simp
    generalize hl : s.data.toList = l at *
    subst es
    cases l with
    | nil => exact base (.inr rfl)
    | cons c q =>
      simp only [pText] at hp
      split at hp
      · rename_i hn
        have HO := hide (takerOne_ok b c q w h)
        have HT : Hid (∀ W, TakeAt b ⟨q.toArray⟩ false W → Calls Try.prog 34 #[.pointer (some ⟨b, 0, none⟩), .int .i64 c.toNat] W fun e w' => e = .returned (.string ⟨#[]⟩) ∧ TakeAt b ⟨q.toArray⟩ true w' ∧ Kept (one b) W w') := fun W hW => takerText_short b q c.toNat W hW hn
        clear h hn hp base hb hl
        go_enter Try.func35, Try.ntmps35
        go_wp2_with fail
        refine HO.out.mono ?_
        rintro e w1 ⟨rfl, h1, hk1⟩
        have H1 := hide h1
        clear h1
        go_wp2_with fail
        refine (HT.out _ H1.out).mono ?_
        rintro e w2 ⟨rfl, h2, hk2⟩
        have H2 := hide h2
        clear h2
        go_wp2_with fail
        go_ret
        exact ⟨rfl, ⟨_, H2.out⟩, hk1.trans hk2⟩
      · cases hp
end Go.Proofs.Ytolpmaapdkhigab
