/- (patterns) WALKS of the small functions of package scan: bytes that must come. -/
import Derived.Test.YtolpmaapdkhigabGScan
import Derived.Handy
namespace Go.Proofs.Ytolpmaapdkhigab
open Go.RowKit

/-- WHAT Must ASKS, AS A PLAIN FUNCTION. -/
def pMust : List UInt8 → List UInt8 → Except Nat (List UInt8)
  | [], l => .ok l
  | _ :: _, [] => .error 8
  | c :: cs, d :: r => if d = c then pMust cs r else .error 1

set_option maxHeartbeats 400000 in
theorem must_any (cs : List UInt8) (b g : Nat) (s : ByteArray) (l : List UInt8) (w : World) (h : AtL b s l w) (hgb : g ≠ b) (hn : cs.length ≤ 2)
    (hc : ∀ i (hi : i < cs.length), w.cell? ⟨g, i, none⟩ = some (.int .u8 cs[i].toNat)) :
    Calls Try.prog 98 #[.pointer (some ⟨b, 0, none⟩), .slice (some ⟨g, 0, none⟩) cs.length cs.length] w fun e w' => Kept (one b) w w' ∧
      (∀ r, pMust cs l = .ok r → e = .returned (.tuple #[]) ∧ AtL b s r w') ∧ (∀ n, pMust cs l = .error n → e = .panicked [{ v := .iface 92 (.agg #[.int .i64 (n)]), recovered := false }]) := by
  go_enter Try.func98, Try.ntmps98
  go_wp2
  go_loopw [8] (fun i wr => ∃ (k : Nat) (q : List UInt8), k ≤ cs.length ∧ i = .int .i64 k ∧ AtL b s q wr ∧ Kept (one b) w wr ∧ pMust cs l = pMust (cs.drop k) q) (fun i _ => cs.length - (intOf i).toNat)
  case atStart => exact ⟨0, l, Nat.zero_le _, rfl, h, Kept.refl _ _, rfl⟩
  case round =>
    obtain ⟨k, q, hk, rfl, ha, hkp, hp⟩ := hrel
    by_cases hlt : k < cs.length
    · have hcell : wr.cell? ⟨g, k, none⟩ = some (.int .u8 cs[k].toNat) := hkp.cell' (hc k hlt) hgb
      have HP : Hid (pMust cs l = pMust (cs.drop k) q) := hp
      clear hp hc
      have hd : cs.drop k = cs[k] :: cs.drop (k + 1) := List.drop_eq_getElem_cons hlt
      have HD : Hid (cs.drop k = cs[k] :: cs.drop (k + 1)) := hd
      clear hd
      cases q with
      | nil =>
        go_wp2_with (go_at_call 51; refine (next_short b s wr ha).mono ?_; rintro e w' ⟨rfl, hk2⟩)
        refine ⟨rfl, hkp.trans hk2, ?_, ?_⟩
        · intro r hr; rw [HP.out, HD.out] at hr; simp [pMust] at hr
        · intro n hr; rw [HP.out, HD.out] at hr; simp [pMust] at hr; subst hr; rfl
      | cons d r =>
        by_cases hdc : d = cs[k]
        · have hb : ((d.toNat : Int) != cs[k].toNat) = false := by simp [hdc]
          have HDC : Hid (d = cs[k]) := hdc
          clear hdc
          go_wp2_with (go_at_call 51; refine (next_ok b s d r wr ha).mono ?_; rintro e w' ⟨rfl, ha2, hk2⟩)
          go_roundw
          case rel => exact ⟨k + 1, r, by omega, by go_num, ha2, hkp.trans hk2, by rw [HP.out, HD.out]; simp [pMust, HDC.out]⟩
          case measure => simp [intOf]; omega
        · have hb : ((d.toNat : Int) != cs[k].toNat) = true := by
            have : d.toNat ≠ cs[k].toNat := fun e => hdc (UInt8.toNat_inj.1 e)
            simp; omega
          have HDC : Hid (¬ d = cs[k]) := hdc
          clear hdc
          go_wp2_with (first | (go_at_call 51; refine (next_ok b s d r wr ha).mono ?_; rintro e w' ⟨rfl, ha2, hk2⟩) | (go_at_call 61; refine (giveUp_any _ _).mono ?_; rintro e w' ⟨rfl, rfl⟩))
          refine ⟨rfl, hkp.trans hk2, ?_, ?_⟩
          · intro r hr; rw [HP.out, HD.out] at hr; simp [pMust, HDC.out] at hr
          · intro n hr; rw [HP.out, HD.out] at hr; simp [pMust, HDC.out] at hr; subst hr; rfl
    · have hkk : k = cs.length := by omega
      have HP : Hid (pMust cs l = .ok q) := by rw [hp, hkk]; simp [Hid, pMust]
      clear hp
      go_wp2
      go_end0
      refine ⟨hkp, ?_, ?_⟩
      · intro r hr; rw [HP.out] at hr; cases hr; exact ⟨rfl, ha⟩
      · intro n hr; rw [HP.out] at hr; cases hr

theorem must_ok (cs : List UInt8) (b g : Nat) (s : ByteArray) (l r : List UInt8) (w : World) (h : AtL b s l w) (hgb : g ≠ b) (hn : cs.length ≤ 2)
    (hc : ∀ i (hi : i < cs.length), w.cell? ⟨g, i, none⟩ = some (.int .u8 cs[i].toNat)) (hp : pMust cs l = .ok r) :
    Calls Try.prog 98 #[.pointer (some ⟨b, 0, none⟩), .slice (some ⟨g, 0, none⟩) cs.length cs.length] w fun e w' => e = .returned (.tuple #[]) ∧ AtL b s r w' ∧ Kept (one b) w w' :=
  (must_any cs b g s l w h hgb hn hc).mono fun _ _ ⟨h1, h2, _⟩ => ⟨(h2 r hp).1, (h2 r hp).2, h1⟩
theorem must_err (cs : List UInt8) (b g : Nat) (s : ByteArray) (l : List UInt8) (n : Nat) (w : World) (h : AtL b s l w) (hgb : g ≠ b) (hn : cs.length ≤ 2)
    (hc : ∀ i (hi : i < cs.length), w.cell? ⟨g, i, none⟩ = some (.int .u8 cs[i].toNat)) (hp : pMust cs l = .error n) :
    Calls Try.prog 98 #[.pointer (some ⟨b, 0, none⟩), .slice (some ⟨g, 0, none⟩) cs.length cs.length] w fun e w' => e = .panicked [{ v := .iface 92 (.agg #[.int .i64 (n)]), recovered := false }] ∧ Kept (one b) w w' :=
  (must_any cs b g s l w h hgb hn hc).mono fun _ _ ⟨h1, _, h2⟩ => ⟨h2 n hp, h1⟩


/-- Must at one byte that the caller has just laid. -/
theorem must1_ok (c : UInt8) (ci : Int) (hci : ci = c.toNat) (b : Nat) (s : ByteArray) (l r : List UInt8) (w : World) (h : AtL b s l w) (hp : pMust [c] l = .ok r) :
    Calls Try.prog 98 #[.pointer (some ⟨b, 0, none⟩), .slice (some ⟨w.heap.size, 0, none⟩) 1 1] (w.alloc (.cells #[.int .u8 ci] 5)) fun e w' => e = .returned (.tuple #[]) ∧ AtL b s r w' ∧ Kept (one b) w w' := by
  subst hci
  have hlt := h.lt
  refine (must_ok [c] b w.heap.size s l r _ (h.alloc _) (by omega) (by simp) ?_ hp).mono fun e w' ⟨h1, h2, h3⟩ => ⟨h1, h2, ((Kept.refl _ _).alloc _).trans h3⟩
  intro i hi
  simp at hi
  subst hi
  simp [go_sem]
theorem must1_err (c : UInt8) (ci : Int) (hci : ci = c.toNat) (b : Nat) (s : ByteArray) (l : List UInt8) (n : Nat) (w : World) (h : AtL b s l w) (hp : pMust [c] l = .error n) :
    Calls Try.prog 98 #[.pointer (some ⟨b, 0, none⟩), .slice (some ⟨w.heap.size, 0, none⟩) 1 1] (w.alloc (.cells #[.int .u8 ci] 5)) fun e w' => e = .panicked [{ v := .iface 92 (.agg #[.int .i64 (n)]), recovered := false }] ∧ Kept (one b) w w' := by
  subst hci
  have hlt := h.lt
  refine (must_err [c] b w.heap.size s l n _ (h.alloc _) (by omega) (by simp) ?_ hp).mono fun e w' ⟨h1, h3⟩ => ⟨h1, ((Kept.refl _ _).alloc _).trans h3⟩
  intro i hi
  simp at hi
  subst hi
  simp [go_sem]
/-- Must at a line's end that the caller has just laid. -/
theorem must2_ok (b : Nat) (s : ByteArray) (l r : List UInt8) (w : World) (h : AtL b s l w) (hp : pMust [13, 10] l = .ok r) :
    Calls Try.prog 98 #[.pointer (some ⟨b, 0, none⟩), .slice (some ⟨w.heap.size, 0, none⟩) 2 2] (w.alloc (.cells #[.int .u8 13, .int .u8 10] 5)) fun e w' => e = .returned (.tuple #[]) ∧ AtL b s r w' ∧ Kept (one b) w w' := by
  have hlt := h.lt
  refine (must_ok [13, 10] b w.heap.size s l r _ (h.alloc _) (by omega) (by simp) ?_ hp).mono fun e w' ⟨h1, h2, h3⟩ => ⟨h1, h2, ((Kept.refl _ _).alloc _).trans h3⟩
  intro i hi
  match i, hi with
  | 0, _ => simp [go_sem]
  | 1, _ => simp [go_sem]
theorem must2_err (b : Nat) (s : ByteArray) (l : List UInt8) (n : Nat) (w : World) (h : AtL b s l w) (hp : pMust [13, 10] l = .error n) :
    Calls Try.prog 98 #[.pointer (some ⟨b, 0, none⟩), .slice (some ⟨w.heap.size, 0, none⟩) 2 2] (w.alloc (.cells #[.int .u8 13, .int .u8 10] 5)) fun e w' => e = .panicked [{ v := .iface 92 (.agg #[.int .i64 (n)]), recovered := false }] ∧ Kept (one b) w w' := by
  have hlt := h.lt
  refine (must_err [13, 10] b w.heap.size s l n _ (h.alloc _) (by omega) (by simp) ?_ hp).mono fun e w' ⟨h1, h3⟩ => ⟨h1, ((Kept.refl _ _).alloc _).trans h3⟩
  intro i hi
  match i, hi with
  | 0, _ => simp [go_sem]
  | 1, _ => simp [go_sem]


end Go.Proofs.Ytolpmaapdkhigab
