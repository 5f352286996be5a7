/- WALKS of the small functions of package scan. -/
import Derived.Test.YtolpmaapdkhigaaDoorProg
import Derived.Test.YtolpmaapdkhigaaDoorBase
import Derived.BigQuiet
import Derived.WalkLawsBesides
namespace Go.Proofs.YtolpmaapdkhigaaDoor
open Go.RowKit

set_option maxHeartbeats 400000 in
theorem done_any (b : Nat) (s : ByteArray) (k : Nat) (w : World) (h : At b s k w) :
    Calls Tryd.prog 32 #[.pointer (some ⟨b, 0, none⟩)] w fun e w' => e = .returned (.bool ((k : Int) == s.size)) ∧ ∃ n, w' = w.drewN n := by
  obtain ⟨h0, h1, h2, h3, h4⟩ := h
  go_enter Tryd.func32, Tryd.ntmps32
  go_wp2
  go_quiet (fail)
  go_wp2
  go_ret
  exact ⟨rfl, _, rfl⟩

set_option maxHeartbeats 400000 in
theorem at_any (b : Nat) (s : ByteArray) (k : Nat) (w : World) (h : At b s k w) :
    Calls Tryd.prog 34 #[.pointer (some ⟨b, 0, none⟩)] w fun e w' => e = .returned (.int .i64 k) ∧ w' = w := by
  obtain ⟨h0, h1, h2, h3, h4⟩ := h
  go_enter Tryd.func34, Tryd.ntmps34
  go_wp2
  go_ret
  exact ⟨rfl, rfl⟩

set_option maxHeartbeats 400000 in
theorem giveUp_any (n : Int) (w : World) :
    Calls Tryd.prog 43 #[.int .i64 n] w fun e w' => e = .panicked [{ v := .iface 66 (.agg #[.int .i64 (n)]), recovered := false }] ∧ w' = w := by
  go_enter Tryd.func43, Tryd.ntmps43
  go_wp2
  exact ⟨rfl, rfl, rfl⟩

set_option maxHeartbeats 400000 in
theorem next_at (b : Nat) (s : ByteArray) (k : Nat) (w : World) (h : At b s k w) (hk : k < s.size) :
    Calls Tryd.prog 40 #[.pointer (some ⟨b, 0, none⟩)] w fun e w' => e = .returned (.int .u8 s[k].toNat) ∧ At b s (k + 1) w' ∧ Kept (one b) w w' := by
  have hA := h
  obtain ⟨h0, h1, h2, h3, h4⟩ := h
  have h5 : ((k : Int) == s.size) = false := by simp; omega
  unfold maxLen at h4
  go_enter Tryd.func40, Tryd.ntmps40
  go_wp2_with (go_at_call 32; refine (done_any _ _ _ _ hA).mono ?_; rintro e w' ⟨rfl, n, rfl⟩)
  go_quiet (fail)
  go_wp2
  go_ret
  refine ⟨rfl, ?_, ?_⟩
  · have := (hA.drewN n).set (j := k + 1) (by omega)
    simpa using this.drewN nq
  · exact (((Kept.refl _ _).drewN n).set1 _ _).drewN nq

theorem next_ok (b : Nat) (s : ByteArray) (c : UInt8) (r : List UInt8) (w : World) (h : AtL b s (c :: r) w) :
    Calls Tryd.prog 40 #[.pointer (some ⟨b, 0, none⟩)] w fun e w' => e = .returned (.int .u8 c.toNat) ∧ AtL b s r w' ∧ Kept (one b) w w' := by
  have hl := h.len
  simp only [List.length_cons] at hl
  have hk : s.size - (r.length + 1) < s.size := by omega
  refine (next_at b s _ w h.1 hk).mono ?_
  rintro e w' ⟨rfl, ha, hkp⟩
  refine ⟨?_, ⟨?_, suffix_cons h.2⟩, hkp⟩
  · have := get_of_suffix h.2 hk
    simp only [List.length_cons]
    rw [this]
  · have e : s.size - (c :: r).length + 1 = s.size - r.length := by simp only [List.length_cons]; omega
    rw [e] at ha
    exact ha

set_option maxHeartbeats 400000 in
theorem next_short (b : Nat) (s : ByteArray) (w : World) (h : AtL b s [] w) :
    Calls Tryd.prog 40 #[.pointer (some ⟨b, 0, none⟩)] w fun e w' => e = .panicked [{ v := .iface 66 (.agg #[.int .i64 (8)]), recovered := false }] ∧ Kept (one b) w w' := by
  have hA : At b s s.size w := h.1
  obtain ⟨h0, h1, h2, h3, h4⟩ := hA
  have h5 : ((s.size : Int) == s.size) = true := by simp
  unfold maxLen at h4
  go_enter Tryd.func40, Tryd.ntmps40
  go_wp2_with (first | (go_at_call 32; refine (done_any _ _ _ _ h.1).mono ?_; rintro e w' ⟨rfl, n, rfl⟩) | (go_at_call 43; refine (giveUp_any _ _).mono ?_; rintro e w' ⟨rfl, rfl⟩))
  exact ⟨rfl, rfl, (Kept.refl _ _).drewN n⟩

/-- WHAT Must ASKS, AS A PLAIN FUNCTION. -/
def pMust : List UInt8 → List UInt8 → Except Nat (List UInt8)
  | [], l => .ok l
  | _ :: _, [] => .error 8
  | c :: cs, d :: r => if d = c then pMust cs r else .error 1

set_option maxHeartbeats 400000 in
theorem must_any (cs : List UInt8) (b g : Nat) (s : ByteArray) (l : List UInt8) (w : World) (h : AtL b s l w) (hgb : g ≠ b) (hn : cs.length ≤ 2)
    (hc : ∀ i (hi : i < cs.length), w.cell? ⟨g, i, none⟩ = some (.int .u8 cs[i].toNat)) :
    Calls Tryd.prog 51 #[.pointer (some ⟨b, 0, none⟩), .slice (some ⟨g, 0, none⟩) cs.length cs.length] w fun e w' => Kept (one b) w w' ∧
      (∀ r, pMust cs l = .ok r → e = .returned (.tuple #[]) ∧ AtL b s r w') ∧ (∀ n, pMust cs l = .error n → e = .panicked [{ v := .iface 66 (.agg #[.int .i64 (n)]), recovered := false }]) := by
  go_enter Tryd.func51, Tryd.ntmps51
  go_wp2
  go_loopw [8] (fun i wr => ∃ (k : Nat) (q : List UInt8), k ≤ cs.length ∧ i = .int .i64 k ∧ AtL b s q wr ∧ Kept (one b) w wr ∧ pMust cs l = pMust (cs.drop k) q) (fun i _ => cs.length - (intOf i).toNat)
  case atStart => exact ⟨0, l, Nat.zero_le _, rfl, h, Kept.refl _ _, rfl⟩
  case round =>
    obtain ⟨k, q, hk, rfl, ha, hkp, hp⟩ := hrel
    by_cases hlt : k < cs.length
    · have hcell : wr.cell? ⟨g, k, none⟩ = some (.int .u8 cs[k].toNat) := hkp.cell' (hc k hlt) hgb
      have HP : Hid (pMust cs l = pMust (cs.drop k) q) := hp
      clear hp hc
      have hd : cs.drop k = cs[k] :: cs.drop (k + 1) := List.drop_eq_getElem_cons hlt
      have HD : Hid (cs.drop k = cs[k] :: cs.drop (k + 1)) := hd
      clear hd
      cases q with
      | nil =>
        go_wp2_with (go_at_call 40; refine (next_short b s wr ha).mono ?_; rintro e w' ⟨rfl, hk2⟩)
        refine ⟨rfl, hkp.trans hk2, ?_, ?_⟩
        · intro r hr; rw [HP.out, HD.out] at hr; simp [pMust] at hr
        · intro n hr; rw [HP.out, HD.out] at hr; simp [pMust] at hr; subst hr; rfl
      | cons d r =>
        by_cases hdc : d = cs[k]
        · have hb : ((d.toNat : Int) != cs[k].toNat) = false := by simp [hdc]
          have HDC : Hid (d = cs[k]) := hdc
          clear hdc
          go_wp2_with (go_at_call 40; refine (next_ok b s d r wr ha).mono ?_; rintro e w' ⟨rfl, ha2, hk2⟩)
          go_roundw
          case rel => exact ⟨k + 1, r, by omega, by go_num, ha2, hkp.trans hk2, by rw [HP.out, HD.out]; simp [pMust, HDC.out]⟩
          case measure => simp [intOf]; omega
        · have hb : ((d.toNat : Int) != cs[k].toNat) = true := by
            have : d.toNat ≠ cs[k].toNat := fun e => hdc (UInt8.toNat_inj.1 e)
            simp; omega
          have HDC : Hid (¬ d = cs[k]) := hdc
          clear hdc
          go_wp2_with (first | (go_at_call 40; refine (next_ok b s d r wr ha).mono ?_; rintro e w' ⟨rfl, ha2, hk2⟩) | (go_at_call 43; refine (giveUp_any _ _).mono ?_; rintro e w' ⟨rfl, rfl⟩))
          refine ⟨rfl, hkp.trans hk2, ?_, ?_⟩
          · intro r hr; rw [HP.out, HD.out] at hr; simp [pMust, HDC.out] at hr
          · intro n hr; rw [HP.out, HD.out] at hr; simp [pMust, HDC.out] at hr; subst hr; rfl
    · have hkk : k = cs.length := by omega
      have HP : Hid (pMust cs l = .ok q) := by rw [hp, hkk]; simp [Hid, pMust]
      clear hp
      go_wp2
      go_end0
      refine ⟨hkp, ?_, ?_⟩
      · intro r hr; rw [HP.out] at hr; cases hr; exact ⟨rfl, ha⟩
      · intro n hr; rw [HP.out] at hr; cases hr

theorem must_ok (cs : List UInt8) (b g : Nat) (s : ByteArray) (l r : List UInt8) (w : World) (h : AtL b s l w) (hgb : g ≠ b) (hn : cs.length ≤ 2)
    (hc : ∀ i (hi : i < cs.length), w.cell? ⟨g, i, none⟩ = some (.int .u8 cs[i].toNat)) (hp : pMust cs l = .ok r) :
    Calls Tryd.prog 51 #[.pointer (some ⟨b, 0, none⟩), .slice (some ⟨g, 0, none⟩) cs.length cs.length] w fun e w' => e = .returned (.tuple #[]) ∧ AtL b s r w' ∧ Kept (one b) w w' :=
  (must_any cs b g s l w h hgb hn hc).mono fun _ _ ⟨h1, h2, _⟩ => ⟨(h2 r hp).1, (h2 r hp).2, h1⟩
theorem must_err (cs : List UInt8) (b g : Nat) (s : ByteArray) (l : List UInt8) (n : Nat) (w : World) (h : AtL b s l w) (hgb : g ≠ b) (hn : cs.length ≤ 2)
    (hc : ∀ i (hi : i < cs.length), w.cell? ⟨g, i, none⟩ = some (.int .u8 cs[i].toNat)) (hp : pMust cs l = .error n) :
    Calls Tryd.prog 51 #[.pointer (some ⟨b, 0, none⟩), .slice (some ⟨g, 0, none⟩) cs.length cs.length] w fun e w' => e = .panicked [{ v := .iface 66 (.agg #[.int .i64 (n)]), recovered := false }] ∧ Kept (one b) w w' :=
  (must_any cs b g s l w h hgb hn hc).mono fun _ _ ⟨h1, _, h2⟩ => ⟨h2 n hp, h1⟩


/-- Must at one byte that the caller has just laid. -/
theorem must1_ok (c : UInt8) (ci : Int) (hci : ci = c.toNat) (b : Nat) (s : ByteArray) (l r : List UInt8) (w : World) (h : AtL b s l w) (hp : pMust [c] l = .ok r) :
    Calls Tryd.prog 51 #[.pointer (some ⟨b, 0, none⟩), .slice (some ⟨w.heap.size, 0, none⟩) 1 1] (w.alloc (.cells #[.int .u8 ci] 5)) fun e w' => e = .returned (.tuple #[]) ∧ AtL b s r w' ∧ Kept (one b) w w' := by
  subst hci
  have hlt := h.lt
  refine (must_ok [c] b w.heap.size s l r _ (h.alloc _) (by omega) (by simp) ?_ hp).mono fun e w' ⟨h1, h2, h3⟩ => ⟨h1, h2, ((Kept.refl _ _).alloc _).trans h3⟩
  intro i hi
  simp at hi
  subst hi
  simp [go_sem]
theorem must1_err (c : UInt8) (ci : Int) (hci : ci = c.toNat) (b : Nat) (s : ByteArray) (l : List UInt8) (n : Nat) (w : World) (h : AtL b s l w) (hp : pMust [c] l = .error n) :
    Calls Tryd.prog 51 #[.pointer (some ⟨b, 0, none⟩), .slice (some ⟨w.heap.size, 0, none⟩) 1 1] (w.alloc (.cells #[.int .u8 ci] 5)) fun e w' => e = .panicked [{ v := .iface 66 (.agg #[.int .i64 (n)]), recovered := false }] ∧ Kept (one b) w w' := by
  subst hci
  have hlt := h.lt
  refine (must_err [c] b w.heap.size s l n _ (h.alloc _) (by omega) (by simp) ?_ hp).mono fun e w' ⟨h1, h3⟩ => ⟨h1, ((Kept.refl _ _).alloc _).trans h3⟩
  intro i hi
  simp at hi
  subst hi
  simp [go_sem]
/-- Must at a line's end that the caller has just laid. -/
theorem must2_ok (b : Nat) (s : ByteArray) (l r : List UInt8) (w : World) (h : AtL b s l w) (hp : pMust [13, 10] l = .ok r) :
    Calls Tryd.prog 51 #[.pointer (some ⟨b, 0, none⟩), .slice (some ⟨w.heap.size, 0, none⟩) 2 2] (w.alloc (.cells #[.int .u8 13, .int .u8 10] 5)) fun e w' => e = .returned (.tuple #[]) ∧ AtL b s r w' ∧ Kept (one b) w w' := by
  have hlt := h.lt
  refine (must_ok [13, 10] b w.heap.size s l r _ (h.alloc _) (by omega) (by simp) ?_ hp).mono fun e w' ⟨h1, h2, h3⟩ => ⟨h1, h2, ((Kept.refl _ _).alloc _).trans h3⟩
  intro i hi
  match i, hi with
  | 0, _ => simp [go_sem]
  | 1, _ => simp [go_sem]
theorem must2_err (b : Nat) (s : ByteArray) (l : List UInt8) (n : Nat) (w : World) (h : AtL b s l w) (hp : pMust [13, 10] l = .error n) :
    Calls Tryd.prog 51 #[.pointer (some ⟨b, 0, none⟩), .slice (some ⟨w.heap.size, 0, none⟩) 2 2] (w.alloc (.cells #[.int .u8 13, .int .u8 10] 5)) fun e w' => e = .panicked [{ v := .iface 66 (.agg #[.int .i64 (n)]), recovered := false }] ∧ Kept (one b) w w' := by
  have hlt := h.lt
  refine (must_err [13, 10] b w.heap.size s l n _ (h.alloc _) (by omega) (by simp) ?_ hp).mono fun e w' ⟨h1, h3⟩ => ⟨h1, ((Kept.refl _ _).alloc _).trans h3⟩
  intro i hi
  match i, hi with
  | 0, _ => simp [go_sem]
  | 1, _ => simp [go_sem]


theorem done_nil (b : Nat) (s : ByteArray) (w : World) (h : AtL b s [] w) :
    Calls Tryd.prog 32 #[.pointer (some ⟨b, 0, none⟩)] w fun e w' => e = .returned (.bool true) ∧ ∃ n, w' = w.drewN n := by
  refine (done_any b s _ w h.1).mono ?_
  rintro e w' ⟨rfl, n, rfl⟩
  exact ⟨by simp, n, rfl⟩
theorem done_cons (b : Nat) (s : ByteArray) (c : UInt8) (l : List UInt8) (w : World) (h : AtL b s (c :: l) w) :
    Calls Tryd.prog 32 #[.pointer (some ⟨b, 0, none⟩)] w fun e w' => e = .returned (.bool false) ∧ ∃ n, w' = w.drewN n := by
  have hl := h.len
  refine (done_any b s _ w h.1).mono ?_
  rintro e w' ⟨rfl, n, rfl⟩
  have hb : (((s.size - (c :: l).length : Nat) : Int) == s.size) = false := by
    simp only [List.length_cons] at hl ⊢
    simp
    omega
  exact ⟨by rw [hb], n, rfl⟩
end Go.Proofs.YtolpmaapdkhigaaDoor
