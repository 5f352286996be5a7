/- WALK of a part. -/
import Derived.Test.YtkjnalbnhmpopaaGBrk
import Derived.Laws.EntriesVeiled
import Derived.Handy
namespace Go.Proofs.Ytkjnalbnhmpopaa
open Go.RowKit

def PartPost (b : Nat) (s : ByteArray) (l : List UInt8) (w : World) (e : Ending) (w' : World) : Prop :=
  Kept (one b) w w' ∧ (∀ p q, pPart l = .ok (p, q) → ∃ v, e = .returned (.agg #[.bool p.many, v]) ∧ FnAt w.heap.size w' v p ∧ AtL b s q w') ∧ (∀ n, pPart l = .error n → e = .panicked [{ v := .iface 115 (.agg #[.int .i64 (n)]), recovered := false }])
theorem PartPost.err {b : Nat} {s : ByteArray} {l : List UInt8} {w w' : World} {x : Nat} (hp : pPart l = .error x) (hk : Kept (one b) w w') : PartPost b s l w (.panicked [{ v := .iface 115 (.agg #[.int .i64 (x)]), recovered := false }]) w' :=
  ⟨hk, fun v q hx => by rw [hp] at hx; simp at hx, fun n hx => by rw [hp] at hx; simp at hx; subst hx; rfl⟩
theorem PartPost.ok {b : Nat} {s : ByteArray} {l q : List UInt8} {w w' : World} {p : Part} {v : Value} (hp : pPart l = .ok (p, q)) (hk : Kept (one b) w w') (hf : FnAt w.heap.size w' v p) (ha : AtL b s q w') : PartPost b s l w (.returned (.agg #[.bool p.many, v])) w' :=
  ⟨hk, fun p' q' hx => by rw [hp] at hx; simp at hx; obtain ⟨rfl, rfl⟩ := hx; exact ⟨v, rfl, hf, ha⟩, fun n hx => by rw [hp] at hx; simp at hx⟩
/-- the part is stored as the call's result -/
theorem part_stored {b : Nat} {s : ByteArray} {q : List UInt8} {w w1 : World} {p : Part} {v x0 x1 : Value} (hR : w1.heap[w.heap.size]? = some (.cells #[x0, x1] 95)) (hk : Kept (one b) w w1) (hf : FnAt w.heap.size w1 v p) (ha : AtL b s q w1) (hb : b < w.heap.size) (m : Value) :
    Two ((w1.setCell ⟨w.heap.size, 0, none⟩ m).setCell ⟨w.heap.size, 1, none⟩ v) w.heap.size m v ∧ Kept (one b) w ((w1.setCell ⟨w.heap.size, 0, none⟩ m).setCell ⟨w.heap.size, 1, none⟩ v) ∧ FnAt w.heap.size ((w1.setCell ⟨w.heap.size, 0, none⟩ m).setCell ⟨w.heap.size, 1, none⟩ v) v p ∧ AtL b s q ((w1.setCell ⟨w.heap.size, 0, none⟩ m).setCell ⟨w.heap.size, 1, none⟩ v) := by
  have k2 := put2_kept (Kept.refl (one w.heap.size) w1) (.inr rfl) m v
  refine ⟨two_of (put2_heap hR m v), put2_kept hk (.inl (Nat.le_refl _)) m v, hf.kept k2 (Nat.le_refl _) (fun k cs T _ h1 h2 e => ?_), ha.kept k2 (fun e => by simp only [one] at e; omega)⟩
  simp only [one] at e
  subst e
  rw [hR] at h1
  simp at h1
  exact h2 h1.2.symm

set_option maxRecDepth 100000 in
set_option maxHeartbeats 2000000 in
theorem part_any (b : Nat) (s : ByteArray) (l0 : List UInt8) (w : World) (h : AtL b s l0 w) (hs : s.size ≤ 60) :
    Calls Try.prog 73 #[.pointer (some ⟨b, 0, none⟩)] w (PartPost b s l0 w) := by
  have hmf : ∀ (fn : Fn) (first cap : Array Value) (w : World), (Instr.makeFunc fn first cap).run Try.prog w = .ok (.func fn first cap) w := fun _ _ _ _ => rfl
  have hbw := h.lt
  have HA : Hid (∀ o, AtL b s l0 (w.alloc o)) := fun o => h.alloc o
  have HK : Hid (∀ o, Kept (one b) w (w.alloc o)) := fun o => (Kept.refl _ w).alloc o
  clear h
  cases l0 with
  | nil =>
    have HN : Hid (∀ o, Calls Try.prog 90 #[.pointer (some ⟨b, 0, none⟩)] (w.alloc o) fun e w' => e = .panicked [{ v := .iface 115 (.agg #[.int .i64 (8)]), recovered := false }] ∧ Kept (one b) (w.alloc o) w') := fun o => next_short b s _ (HA.out o)
    go_enter Try.func73, Try.ntmps73
    go_wp2_with fail
    refine (HN.out _).mono ?_
    rintro e w1 ⟨rfl, hk1⟩
    exact ⟨rfl, PartPost.err rfl ((HK.out _).trans hk1)⟩
  | cons c l =>
    have HN : Hid (∀ o, Calls Try.prog 90 #[.pointer (some ⟨b, 0, none⟩)] (w.alloc o) fun e w' => e = .returned (.int .u8 c.toNat) ∧ AtL b s l w' ∧ Kept (one b) (w.alloc o) w') := fun o => next_ok b s c l _ (HA.out o)
    go_enter Try.func73, Try.ntmps73
    go_wp2_with fail
    refine (HN.out _).mono ?_
    rintro e w1 ⟨rfl, ha1, hk1⟩
    have hz1 : w.heap.size + 1 ≤ w1.heap.size := by have := hk1.size; simpa using this
    have hR1 := (hk1.block w.heap.size (by simp) (fun e => by simp only [one] at e; omega)).trans (heap_alloc_new w _)
    have hkw1 : Kept (one b) w w1 := (HK.out _).trans hk1
    have HRA : Hid (∀ o, (w1.alloc o).heap[w.heap.size]? = some (.cells #[.bool false, .nilFunc] 95)) := fun o => (((Kept.refl (fun _ => False) w1).alloc o).block w.heap.size (by omega) (fun e => e)).trans hR1
    have c0 := fun o => (two_of (HRA.out o)).c0
    have c1 := fun o => (two_of (HRA.out o)).c1
    have f0 := fun o => (two_of (HRA.out o)).f0
    have f1 := fun o => (two_of (HRA.out o)).f1
    have HAA : Hid (∀ o, AtL b s l (w1.alloc o)) := fun o => ha1.alloc o
    have HKA : Hid (∀ o, Kept (one b) w (w1.alloc o)) := fun o => hkw1.alloc o
    have HCA : Hid (∀ o, (w1.alloc o).heap[w1.heap.size]? = some o) := fun o => heap_alloc_new w1 o
    clear HN HA HK hR1 hk1 hkw1 ha1
    have tst : ∀ k : UInt8, (((c.toNat : Nat) : Int) == ((k.toNat : Nat) : Int)) = (c == k) := fun k => u8_beq c k
    by_cases h42 : c = 42
    · have t42 : (((c.toNat : Nat) : Int) == 42) = true := by rw [h42]; rfl
      have HP : Hid (pPart (c :: l) = .ok (.star, l)) := by rw [h42]; rfl
      clear h42 tst
      go_wp2_with fail
      clear c0 c1 f0 f1
      obtain ⟨⟨k0, k1, _, _⟩, p1, p2, p3⟩ := part_stored (p := .star) (v := .func (.func 91) #[] #[]) (HRA.out (.cells #[.int .u8 c.toNat] 5)) (HKA.out _) rfl (HAA.out _) hbw (.bool true)
      have fin := PartPost.ok (l := c :: l) HP.out p1 p2 p3
      exact bodyPost_ret (v := .agg #[.bool true, .func (.func 91) #[] #[]]) (by simp [results, Try.results73, go_sem, k0, k1]) rfl fin
    · have t42 : (((c.toNat : Nat) : Int) == 42) = false := (tst 42).trans (by simpa using h42)
      by_cases h63 : c = 63
      · have t63 : (((c.toNat : Nat) : Int) == 63) = true := by rw [h63]; rfl
        have HP : Hid (pPart (c :: l) = .ok (.any, l)) := by rw [h63]; rfl
        clear h42 h63 tst
        go_wp2_with fail
        clear c0 c1 f0 f1
        obtain ⟨⟨k0, k1, _, _⟩, p1, p2, p3⟩ := part_stored (p := .any) (v := .func (.func 91) #[] #[]) (HRA.out (.cells #[.int .u8 c.toNat] 5)) (HKA.out _) rfl (HAA.out _) hbw (.bool false)
        have fin := PartPost.ok (l := c :: l) HP.out p1 p2 p3
        exact bodyPost_ret (v := .agg #[.bool false, .func (.func 91) #[] #[]]) (by simp [results, Try.results73, go_sem, k0, k1]) rfl fin
      · have t63 : (((c.toNat : Nat) : Int) == 63) = false := (tst 63).trans (by simpa using h63)
        by_cases h91 : c = 91
        · have t91 : (((c.toNat : Nat) : Int) == 91) = true := by rw [h91]; rfl
          have HPB : Hid (pPart (c :: l) = pBracket l) := by rw [h91]; rfl
          have HBR : Hid (Calls Try.prog 92 #[.pointer (some ⟨b, 0, none⟩)] (w1.alloc (.cells #[.int .u8 c.toNat] 5)) (BrPost b s l (w1.alloc (.cells #[.int .u8 c.toNat] 5)))) := bracket_any b s l _ (HAA.out _) hs
          clear h42 h63 h91 tst
          cases hpb : pBracket l with
          | error x =>
            have HP : Hid (pPart (c :: l) = .error x) := by rw [Hid, HPB.out, hpb]
            go_wp2_with fail
            refine HBR.out.mono ?_
            rintro e w2 ⟨hk2, _, herr⟩
            have := herr x hpb
            subst this
            exact ⟨rfl, PartPost.err HP.out ((HKA.out _).trans hk2)⟩
          | ok y =>
            obtain ⟨p, q⟩ := y
            have HP : Hid (pPart (c :: l) = .ok (p, q)) := by rw [Hid, HPB.out, hpb]
            have hmany : p.many = false := by
              unfold pBracket at hpb
              split at hpb
              · simp at hpb
              · simp at hpb
              · simp at hpb; obtain ⟨rfl, rfl⟩ := hpb; rfl
            go_wp2_with fail
            refine HBR.out.mono ?_
            rintro e w2 ⟨hk2, hok, _⟩
            obtain ⟨v, rfl, hfn, ha2⟩ := hok p q hpb
            have hvf : ∃ f caps, v = .func (.func f) #[] caps := by
              unfold pBracket at hpb
              split at hpb
              · simp at hpb
              · simp at hpb
              · simp at hpb
                obtain ⟨rfl, rfl⟩ := hpb
                obtain ⟨b1, b2, a, cap, _, _, hv, _⟩ := hfn
                exact ⟨_, _, hv⟩
            obtain ⟨fv, caps, rfl⟩ := hvf
            have hz2 := hk2.size
            have hR2 := (hk2.block w.heap.size (by simp; omega) (fun e => by simp only [one] at e; omega)).trans (HRA.out _)
            have hf2 : FnAt w.heap.size w2 (.func (.func fv) #[] caps) p := hfn.kept (S := fun _ => False) (Kept.refl _ _) (by simp; omega) (fun _ _ _ _ _ _ e => e)
            have hk2w : Kept (one b) w w2 := (HKA.out _).trans hk2
            clear c0 c1 f0 f1
            have c0 := (two_of hR2).c0
            have c1 := (two_of hR2).c1
            have f0 := (two_of hR2).f0
            have f1 := (two_of hR2).f1
            have HR2 := hide hR2
            have HF2 := hide hf2
            clear hR2 hf2 hfn HBR
            go_wp2_with fail
            clear c0 c1 f0 f1
            obtain ⟨⟨k0, k1, _, _⟩, p1, p2, p3⟩ := part_stored (p := p) (v := .func (.func fv) #[] caps) HR2.out hk2w HF2.out ha2 hbw (.bool false)
            have fin := PartPost.ok (l := c :: l) HP.out p1 p2 p3
            rw [hmany] at fin
            exact bodyPost_ret (v := .agg #[.bool false, .func (.func fv) #[] caps]) (by simp [results, Try.results73, go_sem, k0, k1]) rfl fin
        · have t91 : (((c.toNat : Nat) : Int) == 91) = false := (tst 91).trans (by simpa using h91)
          by_cases h92 : c = 92
          · have t92 : (((c.toNat : Nat) : Int) == 92) = true := by rw [h92]; rfl
            have HPB : Hid (pPart (c :: l) = pEsc l) := by rw [h92]; rfl
            clear h42 h63 h91 h92 tst
            cases l with
            | nil =>
              have HN := hide (next_short b s (w1.alloc (.cells #[.int .u8 c.toNat] 5)) (HAA.out _))
              have HP : Hid (pPart (c :: []) = .error 8) := HPB.out
              go_wp2_with fail
              refine HN.out.mono ?_
              rintro e w2 ⟨rfl, hk2⟩
              exact ⟨rfl, PartPost.err HP.out ((HKA.out _).trans hk2)⟩
            | cons d r =>
              have HN := hide (next_ok b s d r (w1.alloc (.cells #[.int .u8 c.toNat] 5)) (HAA.out _))
              have HP : Hid (pPart (c :: d :: r) = .ok (.lit d, r)) := HPB.out
              go_wp2_with fail
              refine HN.out.mono ?_
              rintro e w2 ⟨rfl, ha2, hk2⟩
              have hz2 := hk2.size
              have hbb := ha2.lt
              have hb1 : b < w1.heap.size := by omega
              have hR2 := (hk2.block w.heap.size (by simp; omega) (fun e => by simp only [one] at e; omega)).trans (HRA.out _)
              have hC2 := (hk2.block w1.heap.size (by simp) (fun e => by simp only [one] at e; omega)).trans (HCA.out _)
              have hk2w : Kept (one b) w w2 := (HKA.out _).trans hk2
              clear c0 c1 f0 f1
              obtain ⟨y0, y1⟩ := one_of hC2
              have hR3 := (((Kept.refl (one w1.heap.size) w2).set1 0 (.int .u8 d.toNat)).block w.heap.size (by simp at hz2; omega) (fun e => by simp only [one] at e; omega)).trans hR2
              have hC3 := setCell_heap1 hC2 0 (.int .u8 d.toNat)
              have hk3 : Kept (one b) w (w2.setCell ⟨w1.heap.size, 0, none⟩ (.int .u8 d.toNat)) := hk2w.setCell (p := ⟨w1.heap.size, 0, none⟩) (.inr (by simp only; omega)) _
              have ha3 : AtL b s r (w2.setCell ⟨w1.heap.size, 0, none⟩ (.int .u8 d.toNat)) := ha2.setOther (by omega) _
              have c0 := (two_of hR3).c0
              have c1 := (two_of hR3).c1
              have f0 := (two_of hR3).f0
              have f1 := (two_of hR3).f1
              have HR3 := hide hR3
              have HC3 : Hid (FnAt w.heap.size (w2.setCell ⟨w1.heap.size, 0, none⟩ (.int .u8 d.toNat)) (.func (.func 93) #[] #[.pointer (some ⟨w1.heap.size, 0, none⟩)]) (.lit d)) := ⟨w1.heap.size, by omega, rfl, hC3⟩
              clear hR2 hR3 hC2 hC3 HN
              go_wp2_with fail
              clear c0 c1 f0 f1 y0 y1
              obtain ⟨⟨k0, k1, _, _⟩, p1, p2, p3⟩ := part_stored (p := .lit d) (v := .func (.func 93) #[] #[.pointer (some ⟨w1.heap.size, 0, none⟩)]) HR3.out hk3 HC3.out ha3 hbw (.bool false)
              have fin := PartPost.ok (l := c :: d :: r) HP.out p1 p2 p3
              exact bodyPost_ret (v := .agg #[.bool false, .func (.func 93) #[] #[.pointer (some ⟨w1.heap.size, 0, none⟩)]]) (by simp [results, Try.results73, go_sem, k0, k1]) rfl fin
          · have t92 : (((c.toNat : Nat) : Int) == 92) = false := (tst 92).trans (by simpa using h92)
            have HP : Hid (pPart (c :: l) = .ok (.lit c, l)) := by rw [Hid, pPart, if_neg h42, if_neg h63, if_neg h91, if_neg h92]
            clear h42 h63 h91 h92 tst
            go_wp2_with fail
            clear c0 c1 f0 f1
            obtain ⟨⟨k0, k1, _, _⟩, p1, p2, p3⟩ := part_stored (p := .lit c) (v := .func (.func 93) #[] #[.pointer (some ⟨w1.heap.size, 0, none⟩)]) (HRA.out (.cells #[.int .u8 c.toNat] 5)) (HKA.out _) ⟨w1.heap.size, by omega, rfl, HCA.out _⟩ (HAA.out _) hbw (.bool false)
            have fin := PartPost.ok (l := c :: l) HP.out p1 p2 p3
            exact bodyPost_ret (v := .agg #[.bool false, .func (.func 93) #[] #[.pointer (some ⟨w1.heap.size, 0, none⟩)]]) (by simp [results, Try.results73, go_sem, k0, k1]) rfl fin
end Go.Proofs.Ytkjnalbnhmpopaa
