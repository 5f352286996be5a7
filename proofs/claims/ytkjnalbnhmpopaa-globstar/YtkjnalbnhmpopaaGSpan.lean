/- WALKS of Want and of a span. -/
import Derived.Test.YtkjnalbnhmpopaaGCls
import Derived.Handy
namespace Go.Proofs.Ytkjnalbnhmpopaa
open Go.RowKit

theorem wantGeq_ok (b pc : Nat) (s : ByteArray) (c d : UInt8) (r : List UInt8) (w : World) (h : AtL b s (d :: r) w) (hc : w.cell? ⟨pc, 0, none⟩ = some (.int .u8 c.toNat)) (hpb : pc ≠ b) (hle : c.toNat ≤ d.toNat) :
    Calls Try.prog 128 #[.pointer (some ⟨b, 0, none⟩), .func (.func 129) #[] #[.pointer (some ⟨pc, 0, none⟩)]] w fun e w' => e = .returned (.int .u8 d.toNat) ∧ AtL b s r w' ∧ Kept (one b) w w' := by
  have HN := hide (next_ok b s d r w h)
  clear h
  go_enter Try.func128, Try.ntmps128
  go_wp2_with fail
  refine HN.out.mono ?_
  rintro e w1 ⟨rfl, ha1, hk1⟩
  have hc1 := hk1.cell' hc hpb
  have HG : Hid (Calls Try.prog 129 #[.int .u8 d.toNat, .pointer (some ⟨pc, 0, none⟩)] w1 fun e w' => e = .returned (.bool true) ∧ w' = w1) := by
    have := fnGeq_any pc d c w1 hc1
    rw [decide_eq_true hle] at this
    exact this
  clear hc hc1 HN
  go_wp2_with fail
  refine HG.out.mono ?_
  rintro e w2 ⟨rfl, rfl⟩
  go_wp2_with fail
  go_ret
  exact ⟨rfl, ha1, hk1⟩
theorem wantGeq_err (b pc : Nat) (s : ByteArray) (c d : UInt8) (r : List UInt8) (w : World) (h : AtL b s (d :: r) w) (hc : w.cell? ⟨pc, 0, none⟩ = some (.int .u8 c.toNat)) (hpb : pc ≠ b) (hle : ¬ c.toNat ≤ d.toNat) :
    Calls Try.prog 128 #[.pointer (some ⟨b, 0, none⟩), .func (.func 129) #[] #[.pointer (some ⟨pc, 0, none⟩)]] w fun e w' => e = .panicked [{ v := .iface 115 (.agg #[.int .i64 (1)]), recovered := false }] ∧ Kept (one b) w w' := by
  have HN := hide (next_ok b s d r w h)
  clear h
  go_enter Try.func128, Try.ntmps128
  go_wp2_with fail
  refine HN.out.mono ?_
  rintro e w1 ⟨rfl, ha1, hk1⟩
  have hc1 := hk1.cell' hc hpb
  have HG : Hid (Calls Try.prog 129 #[.int .u8 d.toNat, .pointer (some ⟨pc, 0, none⟩)] w1 fun e w' => e = .returned (.bool false) ∧ w' = w1) := by
    have := fnGeq_any pc d c w1 hc1
    rw [decide_eq_false hle] at this
    exact this
  clear hc hc1 HN
  go_wp2_with fail
  refine HG.out.mono ?_
  rintro e w2 ⟨rfl, rfl⟩
  go_wp2_with (go_at_call 107; refine (giveUp_any _ _).mono ?_; rintro e w' ⟨rfl, rfl⟩)
  exact ⟨rfl, rfl, hk1⟩

theorem setCell_heap1 {w : World} {g : Nat} {cs : Array Value} {T : Nat} {fr : Nat × Nat} (h : w.heap[g]? = some (.cells cs T fr)) (o : Nat) (u : Value) : (w.setCell ⟨g, o, none⟩ u).heap[g]? = some (.cells (cs.setIfInBounds o u) T fr) := by
  simp [World.setCell, Array.getElem?_modify, h]
theorem put2_heap {w : World} {g T : Nat} {x0 x1 : Value} (h : w.heap[g]? = some (.cells #[x0, x1] T (0, 0))) (a b : Value) :
    ((w.setCell ⟨g, 0, none⟩ a).setCell ⟨g, 1, none⟩ b).heap[g]? = some (.cells #[a, b] T (0, 0)) := by
  rw [setCell_heap1 (setCell_heap1 h 0 a) 1 b]
  rfl
theorem put2_kept {S : Nat → Prop} {w0 w : World} {g : Nat} (h : Kept S w0 w) (hg : w0.heap.size ≤ g ∨ S g) (a b : Value) :
    Kept S w0 ((w.setCell ⟨g, 0, none⟩ a).setCell ⟨g, 1, none⟩ b) := by
  have h' : S g ∨ w0.heap.size ≤ g := hg.symm
  exact (h.setCell (p := ⟨g, 0, none⟩) h' a).setCell (p := ⟨g, 1, none⟩) h' b
structure Two (w : World) (g : Nat) (a b : Value) : Prop where
  c0 : w.cell? ⟨g, 0, none⟩ = some a
  c1 : w.cell? ⟨g, 1, none⟩ = some b
  f0 : w.frozen? ⟨g, 0, none⟩ = false
  f1 : w.frozen? ⟨g, 1, none⟩ = false
theorem two_of {w : World} {g T : Nat} {a b : Value} (h : w.heap[g]? = some (.cells #[a, b] T (0, 0))) : Two w g a b :=
  ⟨by simp [World.cell?, h], by simp [World.cell?, h], by simp [World.frozen?, h], by simp [World.frozen?, h]⟩
theorem one_of {w : World} {g T : Nat} {a : Value} (h : w.heap[g]? = some (.cells #[a] T (0, 0))) : w.cell? ⟨g, 0, none⟩ = some a ∧ w.frozen? ⟨g, 0, none⟩ = false :=
  ⟨by simp [World.cell?, h], by simp [World.frozen?, h]⟩
theorem begin2n (w : World) (o o2 : Obj) (n : Nat) (W : World) (hW : W = ((w.alloc o).alloc o2).drewN n) :
    W.heap[w.heap.size]? = some o ∧ W.heap[w.heap.size + 1]? = some o2 ∧ W.heap.size = w.heap.size + 2 ∧ ∀ S, Kept S w W := by
  subst hW
  have e : (w.alloc o).heap.size = w.heap.size + 1 := by simp
  have h2 := heap_alloc_new (w.alloc o) o2
  rw [e] at h2
  exact ⟨(Below.heap_alloc _ _ _ (by simp)).trans (heap_alloc_new w o), h2, show ((w.alloc o).alloc o2).heap.size = _ by simp, fun S => (((Kept.refl S w).alloc o).alloc o2).drewN n⟩

/-- what the walk of a span answers -/
def SpanPost (b : Nat) (s : ByteArray) (c : UInt8) (l : List UInt8) (w : World) (e : Ending) (w' : World) : Prop :=
  Kept (one b) w w' ∧ (∀ x q, pSpan c l = .ok (x, q) → e = .returned (.agg #[.int .u8 x.1.toNat, .int .u8 x.2.toNat]) ∧ AtL b s q w') ∧ (∀ n, pSpan c l = .error n → e = .panicked [{ v := .iface 115 (.agg #[.int .i64 (n)]), recovered := false }])
theorem SpanPost.err {b : Nat} {s : ByteArray} {c : UInt8} {l : List UInt8} {w w' : World} {x : Nat} (hp : pSpan c l = .error x) (hk : Kept (one b) w w') : SpanPost b s c l w (.panicked [{ v := .iface 115 (.agg #[.int .i64 (x)]), recovered := false }]) w' :=
  ⟨hk, fun v q hx => by rw [hp] at hx; simp at hx, fun n hx => by rw [hp] at hx; simp at hx; subst hx; rfl⟩
theorem SpanPost.ok {b : Nat} {s : ByteArray} {c : UInt8} {l q : List UInt8} {w w' : World} {x : UInt8 × UInt8} (hp : pSpan c l = .ok (x, q)) (hk : Kept (one b) w w') (ha : AtL b s q w') : SpanPost b s c l w (.returned (.agg #[.int .u8 x.1.toNat, .int .u8 x.2.toNat])) w' :=
  ⟨hk, fun v q' hx => by rw [hp] at hx; simp at hx; obtain ⟨rfl, rfl⟩ := hx; exact ⟨rfl, ha⟩, fun n hx => by rw [hp] at hx; simp at hx⟩
theorem mk_get0 {x : UInt8} {l : List UInt8} (h : 0 < (⟨(x :: l).toArray⟩ : ByteArray).size) : (⟨(x :: l).toArray⟩ : ByteArray)[0] = x := rfl
theorem mk_get1 {x y : UInt8} {l : List UInt8} (h : 1 < (⟨(x :: y :: l).toArray⟩ : ByteArray).size) : (⟨(x :: y :: l).toArray⟩ : ByteArray)[1] = y := rfl

set_option maxRecDepth 100000 in
set_option maxHeartbeats 1000000 in
/-- a byte of its own -/
theorem span_single (b : Nat) (s : ByteArray) (c : UInt8) (l : List UInt8) (w : World) (h : AtL b s l w) (L : ByteArray) (hL : L = ⟨l.toArray⟩) (hp : pSpan c l = .ok ((c, c), l))
    (hno : L.size < 2 ∨ (∃ hh : 1 < L.size, ¬ L[0].toNat = 45 ∨ L[1].toNat = 93)) :
    Calls Try.prog 110 #[.pointer (some ⟨b, 0, none⟩), .int .u8 c.toNat] w (SpanPost b s c l w) := by
  have hbw := h.lt
  have HL : Hid (∀ o o2, Calls Try.prog 109 #[.pointer (some ⟨b, 0, none⟩)] ((w.alloc o).alloc o2) fun e w' => e = .returned (.string L) ∧ ∃ n, w' = ((w.alloc o).alloc o2).drewN n) := fun o o2 => by rw [hL]; exact left_any b s l _ ((h.alloc o).alloc o2)
  have HA := hide h
  have HP := hide hp
  clear h hp hL
  go_enter Try.func110, Try.ntmps110
  go_wp2_with fail
  refine (HL.out _ _).mono ?_
  rintro e W ⟨rfl, n, hW⟩
  obtain ⟨hB0, hB1, hz, hk⟩ := begin2n w _ _ n W hW
  have HB0 := hide hB0
  have HB1 := hide hB1
  obtain ⟨c0, f0⟩ := one_of hB0
  obtain ⟨d0, d1, g0, g1⟩ := two_of hB1
  clear hB0 hB1 hW HL f0
  have fin : ∀ W2, W2 = (W.setCell ⟨w.heap.size + 1, 0, none⟩ (.int .u8 c.toNat)).setCell ⟨w.heap.size + 1, 1, none⟩ (.int .u8 c.toNat) → Two W2 (w.heap.size + 1) (.int .u8 c.toNat) (.int .u8 c.toNat) ∧ SpanPost b s c l w (.returned (.agg #[.int .u8 c.toNat, .int .u8 c.toNat])) W2 := fun W2 h2 => by
    subst h2
    exact ⟨two_of (put2_heap HB1.out _ _), SpanPost.ok HP.out (put2_kept (hk _) (.inl (by omega)) _ _) ((HA.out.kept (hk (fun _ => False)) (fun e => e)).kept (put2_kept (Kept.refl (one (w.heap.size + 1)) W) (.inr rfl) _ _) (fun e => by simp only [one] at e; omega))⟩
  have FIN := hide fin
  clear fin HB0 HB1 HA HP hk
  rcases hno with hno | ⟨hh, hno⟩
  · have hno' : ((L.size : Nat) : Int) < 2 := by omega
    go_wp2_with fail
    clear c0 d0 d1 g0 g1
    generalize hw2 : (W.setCell ⟨w.heap.size + 1, 0, none⟩ (.int .u8 c.toNat)).setCell ⟨w.heap.size + 1, 1, none⟩ (.int .u8 c.toNat) = w2 at *
    obtain ⟨⟨k0, k1, _, _⟩, hf⟩ := FIN.out w2 rfl
    exact bodyPost_ret (v := .agg #[.int .u8 c.toNat, .int .u8 c.toNat]) (by simp [results, Try.results110, go_sem, k0, k1]) rfl hf
  · have h2 : ¬ ((L.size : Nat) : Int) < 2 := by omega
    have i0 : 0 < L.size := by omega
    by_cases hx : L[0].toNat = 45
    · have hy : L[1].toNat = 93 := by rcases hno with h | h; exact absurd hx h; exact h
      clear hno
      go_wp2_with fail
      clear c0 d0 d1 g0 g1
      generalize hw2 : (W.setCell ⟨w.heap.size + 1, 0, none⟩ (.int .u8 c.toNat)).setCell ⟨w.heap.size + 1, 1, none⟩ (.int .u8 c.toNat) = w2 at *
      obtain ⟨⟨k0, k1, _, _⟩, hf⟩ := FIN.out w2 rfl
      exact bodyPost_ret (v := .agg #[.int .u8 c.toNat, .int .u8 c.toNat]) (by simp [results, Try.results110, go_sem, k0, k1]) rfl hf
    · clear hno
      go_wp2_with fail
      clear c0 d0 d1 g0 g1
      generalize hw2 : (W.setCell ⟨w.heap.size + 1, 0, none⟩ (.int .u8 c.toNat)).setCell ⟨w.heap.size + 1, 1, none⟩ (.int .u8 c.toNat) = w2 at *
      obtain ⟨⟨k0, k1, _, _⟩, hf⟩ := FIN.out w2 rfl
      exact bodyPost_ret (v := .agg #[.int .u8 c.toNat, .int .u8 c.toNat]) (by simp [results, Try.results110, go_sem, k0, k1]) rfl hf

theorem must1_ok_at (c : UInt8) (ci : Int) (hci : ci = c.toNat) (b g : Nat) (s : ByteArray) (l r : List UInt8) (w : World) (h : AtL b s l w) (hg : g = w.heap.size) (hp : pMust [c] l = .ok r) :
    Calls Try.prog 127 #[.pointer (some ⟨b, 0, none⟩), .slice (some ⟨g, 0, none⟩) 1 1] (w.alloc (.cells #[.int .u8 ci] 5)) fun e w' => e = .returned (.tuple #[]) ∧ AtL b s r w' ∧ Kept (one b) w w' := by
  subst hg
  exact must1_ok c ci hci b s l r w h hp

set_option maxRecDepth 100000 in
set_option maxHeartbeats 2000000 in
/-- a span, or one whose end is less -/
theorem span_range (b : Nat) (s : ByteArray) (c d : UInt8) (r : List UInt8) (w : World) (h : AtL b s (45 :: d :: r) w) (hd : d ≠ 93) :
    Calls Try.prog 110 #[.pointer (some ⟨b, 0, none⟩), .int .u8 c.toNat] w (SpanPost b s c (45 :: d :: r) w) := by
  have hmf : ∀ (fn : Fn) (first cap : Array Value) (w : World), (Instr.makeFunc fn first cap).run Try.prog w = .ok (.func fn first cap) w := fun _ _ _ _ => rfl
  have hbw := h.lt
  obtain ⟨L, hL⟩ : ∃ L : ByteArray, L = ⟨(45 :: d :: r).toArray⟩ := ⟨_, rfl⟩
  have hLs : L.size = r.length + 2 := by rw [hL, size_mk]; rfl
  have i0 : 0 < L.size := by omega
  have i1 : 1 < L.size := by omega
  have x0 : L[0].toNat = 45 := by subst hL; rfl
  have x1 : ¬ L[1].toNat = 93 := by
    intro e
    apply hd
    have : L[1] = d := by subst hL; rfl
    rw [this] at e
    exact UInt8.toNat_inj.mp (by simpa using e)
  have h2 : ¬ ((L.size : Nat) : Int) < 2 := by omega
  have h2b : decide (((L.size : Nat) : Int) < 2) = false := decide_eq_false h2
  have x1b : (((L[1].toNat : Nat) : Int) == 93) = false := by rw [beq_eq_false_iff_ne]; omega
  have HL : Hid (∀ o o2, Calls Try.prog 109 #[.pointer (some ⟨b, 0, none⟩)] ((w.alloc o).alloc o2) fun e w' => e = .returned (.string L) ∧ ∃ n, w' = ((w.alloc o).alloc o2).drewN n) := fun o o2 => by rw [hL]; exact left_any b s _ _ ((h.alloc o).alloc o2)
  have HA := hide h
  clear h hL hLs
  go_enter Try.func110, Try.ntmps110
  go_wp2_with fail
  refine (HL.out _ _).mono ?_
  rintro e W ⟨rfl, n, hW⟩
  obtain ⟨hB0, hB1, hz, hk⟩ := begin2n w _ _ n W hW
  have HB0 := hide hB0
  have HB1 := hide hB1
  have HK := hide hk
  clear hB0 hB1 hW HL hk
  have haW : AtL b s (45 :: d :: r) W := HA.out.kept (HK.out (fun _ => False)) (fun e => e)
  have HM : Hid (Calls Try.prog 127 #[.pointer (some ⟨b, 0, none⟩), .slice (some ⟨W.heap.size, 0, none⟩) 1 1] (W.alloc (.cells #[.int .u8 45] 5)) fun e w' => e = .returned (.tuple #[]) ∧ AtL b s (d :: r) w' ∧ Kept (one b) W w') := must1_ok 45 45 rfl b s _ _ W haW (by simp [pMust])
  have HZ := hide hz
  clear haW HA hz
  go_wp2_with fail
  refine HM.out.mono ?_
  rintro e w1 ⟨rfl, ha1, hk1⟩
  have hz := HZ.out
  have hB0 := (hk1.block w.heap.size (by omega) (fun e => by simp only [one] at e; omega)).trans HB0.out
  have hB1 := (hk1.block (w.heap.size + 1) (by omega) (fun e => by simp only [one] at e; omega)).trans HB1.out
  have hz1 := hk1.size
  have hkw : Kept (one b) w w1 := (HK.out _).trans hk1
  obtain ⟨c0, f0⟩ := one_of hB0
  clear HM HB0 HB1 HK x0 x1b x1 h2b h2 i0 i1 f0 hk1
  by_cases hle : c.toNat ≤ d.toNat
  · have HP : Hid (pSpan c (45 :: d :: r) = .ok ((c, d), r)) := by simp [Hid, pSpan, hd, hle]
    go_wp2_with fail
    go_region_law (go_simp; refine (wantGeq_ok b w.heap.size s c d r _ (ha1.drewN 1) c0 (by omega) hle).mono ?_; rintro e w2 ⟨rfl, ha2, hk2⟩; have k0 : w2.cell? ⟨w.heap.size, 0, none⟩ = some (.int .u8 c.toNat) := hk2.cell' c0 (fun e => by simp only [one] at e; omega); have HB2 := hide ((hk2.block (w.heap.size + 1) (show w.heap.size + 1 < w1.heap.size by omega) (fun e => by simp only [one] at e; omega)).trans hB1); have d0 := (two_of HB2.out).c0; have d1 := (two_of HB2.out).c1; have g0 := (two_of HB2.out).f0; have g1 := (two_of HB2.out).f1)
    all_goals
      go_wp2_with fail
      clear d0 d1 g0 g1 k0
      have hh2 := put2_heap HB2.out (.int .u8 c.toNat) (.int .u8 d.toNat)
      have hkk : Kept (one b) w w2 := hkw.trans (((Kept.refl _ w1).drewN 1).trans hk2)
      have hz2 : w1.heap.size ≤ w2.heap.size := hk2.size
      have hk3 := put2_kept (w0 := w) hkk (.inl (show w.heap.size ≤ w.heap.size + 1 by omega)) (.int .u8 c.toNat) (.int .u8 d.toNat)
      have ha3 := ha2.kept (put2_kept (Kept.refl (one (w.heap.size + 1)) w2) (.inr rfl) (.int .u8 c.toNat) (.int .u8 d.toNat)) (fun e => by simp only [one] at e; omega)
      generalize (w2.setCell ⟨w.heap.size + 1, 0, none⟩ (.int .u8 c.toNat)).setCell ⟨w.heap.size + 1, 1, none⟩ (.int .u8 d.toNat) = w3 at *
      obtain ⟨k0, k1, _, _⟩ := two_of hh2
      exact bodyPost_ret (v := .agg #[.int .u8 c.toNat, .int .u8 d.toNat]) (by simp [results, Try.results110, go_sem, k0, k1]) rfl (SpanPost.ok HP.out hk3 ha3)
  · have HP : Hid (pSpan c (45 :: d :: r) = .error 1) := by simp [Hid, pSpan, hd, hle]
    go_wp2_with fail
    refine wp_region_any (by kernel_rfl) ?_
    change wpAny _ _ _ _ _ _ _ (World.drew _)
    refine wpAny_take (i := 1) (v := .pointer (some ⟨b, 0, none⟩)) rfl (by kernel_rfl) (by kernel_rfl) (by kernel_rfl) (fun _ _ _ h => h) (Or.inl ⟨by rfl, by intro w; go_simp⟩) ?_
    refine wpAny_take (i := 2) (v := .func (.func 129) #[] #[.pointer (some ⟨w.heap.size, 0, none⟩)]) rfl (by kernel_rfl) (by kernel_rfl) (by kernel_rfl) (fun _ _ _ h => h) (Or.inl ⟨by rfl, by intro w; go_simp⟩) ?_
    refine wpAny_ready (rs := [0, 3]) (by kernel_rfl) (by simp) ?_
    refine AllReady.cons rfl (fun K hK => ?_) ?_
    · go_simp
      refine hK _ _ ?_
      clear hK K
      refine wpAny_ready (rs := [3]) (by kernel_rfl) (by simp) ?_
      refine AllReady.cons rfl (fun K hK => ?_) AllReady.nil
      go_simp
      refine (wantGeq_err b w.heap.size s c d r _ (ha1.drewN 1) c0 (by omega) hle).mono ?_
      rintro e w2 ⟨rfl, hk2⟩
      exact ⟨rfl, SpanPost.err HP.out (hkw.trans (((Kept.refl _ _).drewN 1).trans hk2))⟩
    · refine AllReady.cons rfl (fun K hK => ?_) AllReady.nil
      go_simp
      refine (wantGeq_err b w.heap.size s c d r _ (ha1.drewN 1) c0 (by omega) hle).mono ?_
      rintro e w2 ⟨rfl, hk2⟩
      exact ⟨rfl, SpanPost.err HP.out (hkw.trans (((Kept.refl _ _).drewN 1).trans hk2))⟩

/-- the walk of a span -/
theorem span_any (b : Nat) (s : ByteArray) (c : UInt8) (l : List UInt8) (w : World) (h : AtL b s l w) :
    Calls Try.prog 110 #[.pointer (some ⟨b, 0, none⟩), .int .u8 c.toNat] w (SpanPost b s c l w) := by
  match l, h with
  | [], h => exact span_single b s c [] w h _ rfl rfl (.inl (by rw [size_mk]; simp))
  | [x], h =>
    refine span_single b s c [x] w h _ rfl ?_ (.inl (by rw [size_mk]; simp))
    unfold pSpan
    split
    · rename_i e; simp at e
    · rfl
  | x :: d :: r, h =>
    by_cases hx : x = 45
    · subst hx
      by_cases hd : d = 93
      · subst hd
        exact span_single b s c _ w h _ rfl (by simp [pSpan]) (.inr ⟨by rw [size_mk]; simp, .inr rfl⟩)
      · exact span_range b s c d r w h hd
    · refine span_single b s c _ w h _ rfl ?_ (.inr ⟨by rw [size_mk]; simp, .inl ?_⟩)
      · unfold pSpan
        split
        · rename_i e; simp at e; exact absurd e.1 hx
        · rfl
      · intro e
        exact hx (UInt8.toNat_inj.mp (show x.toNat = (45 : UInt8).toNat from e))
theorem span_ok (b : Nat) (s : ByteArray) (c : UInt8) (l q : List UInt8) (x : UInt8 × UInt8) (w : World) (h : AtL b s l w) (hp : pSpan c l = .ok (x, q)) :
    Calls Try.prog 110 #[.pointer (some ⟨b, 0, none⟩), .int .u8 c.toNat] w fun e w' => e = .returned (.agg #[.int .u8 x.1.toNat, .int .u8 x.2.toNat]) ∧ AtL b s q w' ∧ Kept (one b) w w' :=
  (span_any b s c l w h).mono fun _ _ ⟨h1, h2, _⟩ => ⟨(h2 x q hp).1, (h2 x q hp).2, h1⟩
theorem span_err (b : Nat) (s : ByteArray) (c : UInt8) (l : List UInt8) (n : Nat) (w : World) (h : AtL b s l w) (hp : pSpan c l = .error n) :
    Calls Try.prog 110 #[.pointer (some ⟨b, 0, none⟩), .int .u8 c.toNat] w fun e w' => e = .panicked [{ v := .iface 115 (.agg #[.int .i64 (n)]), recovered := false }] ∧ Kept (one b) w w' :=
  (span_any b s c l w h).mono fun _ _ ⟨h1, _, h2⟩ => ⟨h2 n hp, h1⟩
end Go.Proofs.Ytkjnalbnhmpopaa
