/- WALKS of the decoding of a reply that is no list. -/
import Derived.Test.YtolpmaapdkhigaaDoorDec3
import Derived.Handy
namespace Go.Proofs.YtolpmaapdkhigaaDoor
open Go.RowKit

theorem one_block {b : Nat} {w w1 : World} {o : Obj} (hb : b < w.heap.size) (hk : Kept (one b) (w.alloc o) w1) : w1.heap[w.heap.size]? = some o :=
  (hk.block w.heap.size (by simp) (fun e => by simp only [one] at e; omega)).trans (heap_alloc_new w o)
theorem one_four {b T : Nat} {w w1 : World} {x0 x1 x2 x3 : Value} (hb : b < w.heap.size) (hk : Kept (one b) (w.alloc (.cells #[x0, x1, x2, x3] T)) w1) : Four w1 w.heap.size x0 x1 x2 x3 :=
  four_of (one_block hb hk)
theorem one_put {b T : Nat} {w w1 : World} {s : ByteArray} {q : List UInt8} {x0 x1 x2 x3 : Value} (hb : b < w.heap.size) (hk : Kept (one b) (w.alloc (.cells #[x0, x1, x2, x3] T)) w1) (ha : AtL b s q w1) (y0 y1 y2 y3 : Value) :
    Kept (one b) w ((((w1.setCell ⟨w.heap.size, 0, none⟩ y0).setCell ⟨w.heap.size, 1, none⟩ y1).setCell ⟨w.heap.size, 2, none⟩ y2).setCell ⟨w.heap.size, 3, none⟩ y3) ∧
    AtL b s q ((((w1.setCell ⟨w.heap.size, 0, none⟩ y0).setCell ⟨w.heap.size, 1, none⟩ y1).setCell ⟨w.heap.size, 2, none⟩ y2).setCell ⟨w.heap.size, 3, none⟩ y3) ∧
    Four ((((w1.setCell ⟨w.heap.size, 0, none⟩ y0).setCell ⟨w.heap.size, 1, none⟩ y1).setCell ⟨w.heap.size, 2, none⟩ y2).setCell ⟨w.heap.size, 3, none⟩ y3) w.heap.size y0 y1 y2 y3 :=
  ⟨put4_kept (((Kept.refl _ w).alloc _).trans hk) (.inl (Nat.le_refl w.heap.size)) y0 y1 y2 y3,
    ha.kept (put4_kept (Kept.refl (one w.heap.size) w1) (.inr rfl) y0 y1 y2 y3) (fun e => by simp only [one] at e; omega),
    four_of (put4_heap (one_block hb hk) y0 y1 y2 y3)⟩

theorem bytes_ok (b : Nat) (s : ByteArray) (l q : List UInt8) (r : One) (w : World) (h : AtL b s l w) (hs : s.size ≤ 281474976710656) (he : Env w) (hb5 : 5 ≤ b) (hp : pBytes l = .ok (r, q)) :
    Calls Tryd.prog 59 #[.pointer (some ⟨b, 0, none⟩)] w fun e w' => e = .returned r.val ∧ AtL b s q w' ∧ Kept (one b) w w' :=
  (bytes_any b s l w h hs he hb5).mono fun _ _ ⟨h1, h2, _⟩ => ⟨(h2 r q hp).1, (h2 r q hp).2, h1⟩
theorem bytes_err (b : Nat) (s : ByteArray) (l : List UInt8) (n : Nat) (w : World) (h : AtL b s l w) (hs : s.size ≤ 281474976710656) (he : Env w) (hb5 : 5 ≤ b) (hp : pBytes l = .error n) :
    Calls Tryd.prog 59 #[.pointer (some ⟨b, 0, none⟩)] w fun e w' => e = .panicked [{ v := .iface 66 (.agg #[.int .i64 (n)]), recovered := false }] ∧ Kept (one b) w w' :=
  (bytes_any b s l w h hs he hb5).mono fun _ _ ⟨h1, _, h2⟩ => ⟨h2 n hp, h1⟩

set_option maxRecDepth 100000 in
set_option maxHeartbeats 1000000 in
theorem single_text (b : Nat) (s : ByteArray) (l : List UInt8) (w : World) (h : AtL b s l w) (hs : s.size ≤ 281474976710656) (_he : Env w) (_hb5 : 5 ≤ b) (y q : List UInt8) (hp : pLine l = .ok (y, q)) :
    Calls Tryd.prog 42 #[.pointer (some ⟨b, 0, none⟩), .int .u8 43] w fun e w' => e = .returned (One.val ⟨1, y, 0⟩) ∧ AtL b s q w' ∧ Kept (one b) w w' := by
  have hbw := h.lt
  have HA : Hid (∀ o, AtL b s l (w.alloc o)) := fun o => h.alloc o
  have HK : Hid (∀ o w', Kept (one b) (w.alloc o) w' → Kept (one b) w w') := fun o w' hk => ((Kept.refl _ w).alloc o).trans hk
  go_enter Tryd.func42, Tryd.ntmps42
  go_wp2_with fail
  refine (line_ok b s l y q _ (HA.out _) hs hp).mono ?_
  rintro e w1 ⟨rfl, ha1, hk1⟩
  obtain ⟨c0, c1, c2, c3, f0, f1, f2, f3⟩ := one_four hbw hk1
  go_wp2_with fail
  obtain ⟨hk2, ha2, hF⟩ := one_put hbw hk1 ha1 (.int .i64 1) (.string ⟨y.toArray⟩) (.int .i64 0) (.slice none 0 0)
  clear c0 c1 c2 c3 f0 f1 f2 f3
  generalize (((w1.setCell ⟨w.heap.size, 0, none⟩ (.int .i64 1)).setCell ⟨w.heap.size, 1, none⟩ (.string ⟨y.toArray⟩)).setCell ⟨w.heap.size, 2, none⟩ (.int .i64 0)).setCell ⟨w.heap.size, 3, none⟩ (.slice none 0 0) = w2 at *
  obtain ⟨c0, c1, c2, c3, f0, f1, f2, f3⟩ := hF
  exact bodyPost_ret (v := One.val ⟨1, y, 0⟩) (by simp [One.val, results, Tryd.results42, go_sem, c0, c1, c2, c3]) rfl ⟨rfl, ha2, hk2⟩

set_option maxRecDepth 100000 in
set_option maxHeartbeats 1000000 in
theorem single_text_err (b : Nat) (s : ByteArray) (l : List UInt8) (w : World) (h : AtL b s l w) (hs : s.size ≤ 281474976710656) (_he : Env w) (_hb5 : 5 ≤ b) (x : Nat) (hp : pLine l = .error x) :
    Calls Tryd.prog 42 #[.pointer (some ⟨b, 0, none⟩), .int .u8 43] w fun e w' => e = .panicked [{ v := .iface 66 (.agg #[.int .i64 (x)]), recovered := false }] ∧ Kept (one b) w w' := by
  have hbw := h.lt
  have HA : Hid (∀ o, AtL b s l (w.alloc o)) := fun o => h.alloc o
  have HK : Hid (∀ o w', Kept (one b) (w.alloc o) w' → Kept (one b) w w') := fun o w' hk => ((Kept.refl _ w).alloc o).trans hk
  go_enter Tryd.func42, Tryd.ntmps42
  go_wp2_with fail
  refine (line_err b s l x _ (HA.out _) hs hp).mono ?_
  rintro e w1 ⟨rfl, hk1⟩
  exact ⟨rfl, rfl, HK.out _ _ hk1⟩

set_option maxRecDepth 100000 in
set_option maxHeartbeats 1000000 in
theorem single_error (b : Nat) (s : ByteArray) (l : List UInt8) (w : World) (h : AtL b s l w) (hs : s.size ≤ 281474976710656) (he : Env w) (hb5 : 5 ≤ b) (n : Int) (q : List UInt8) (hp : pNumber l = .ok (n, q)) :
    Calls Tryd.prog 42 #[.pointer (some ⟨b, 0, none⟩), .int .u8 45] w fun e w' => e = .returned (One.val ⟨2, [], n⟩) ∧ AtL b s q w' ∧ Kept (one b) w w' := by
  have hbw := h.lt
  have HA : Hid (∀ o, AtL b s l (w.alloc o)) := fun o => h.alloc o
  have HE : Hid (∀ o, Env (w.alloc o)) := fun o => he.below ((Below.refl _ w).alloc (Nat.le_refl _) o)
  have HK : Hid (∀ o w', Kept (one b) (w.alloc o) w' → Kept (one b) w w') := fun o w' hk => ((Kept.refl _ w).alloc o).trans hk
  go_enter Tryd.func42, Tryd.ntmps42
  go_wp2_with fail
  refine (number_ok b s l q n _ (HA.out _) hs (HE.out _) hb5 hp).mono ?_
  rintro e w1 ⟨rfl, ha1, hk1⟩
  obtain ⟨c0, c1, c2, c3, f0, f1, f2, f3⟩ := one_four hbw hk1
  go_wp2_with fail
  obtain ⟨hk2, ha2, hF⟩ := one_put hbw hk1 ha1 (.int .i64 2) (.string ⟨#[]⟩) (.int .i64 n) (.slice none 0 0)
  clear c0 c1 c2 c3 f0 f1 f2 f3
  generalize (((w1.setCell ⟨w.heap.size, 0, none⟩ (.int .i64 2)).setCell ⟨w.heap.size, 1, none⟩ (.string ⟨#[]⟩)).setCell ⟨w.heap.size, 2, none⟩ (.int .i64 n)).setCell ⟨w.heap.size, 3, none⟩ (.slice none 0 0) = w2 at *
  obtain ⟨c0, c1, c2, c3, f0, f1, f2, f3⟩ := hF
  exact bodyPost_ret (v := One.val ⟨2, [], n⟩) (by simp [One.val, results, Tryd.results42, go_sem, c0, c1, c2, c3]) rfl ⟨rfl, ha2, hk2⟩

set_option maxRecDepth 100000 in
set_option maxHeartbeats 1000000 in
theorem single_error_err (b : Nat) (s : ByteArray) (l : List UInt8) (w : World) (h : AtL b s l w) (hs : s.size ≤ 281474976710656) (he : Env w) (hb5 : 5 ≤ b) (x : Nat) (hp : pNumber l = .error x) :
    Calls Tryd.prog 42 #[.pointer (some ⟨b, 0, none⟩), .int .u8 45] w fun e w' => e = .panicked [{ v := .iface 66 (.agg #[.int .i64 (x)]), recovered := false }] ∧ Kept (one b) w w' := by
  have hbw := h.lt
  have HA : Hid (∀ o, AtL b s l (w.alloc o)) := fun o => h.alloc o
  have HE : Hid (∀ o, Env (w.alloc o)) := fun o => he.below ((Below.refl _ w).alloc (Nat.le_refl _) o)
  have HK : Hid (∀ o w', Kept (one b) (w.alloc o) w' → Kept (one b) w w') := fun o w' hk => ((Kept.refl _ w).alloc o).trans hk
  go_enter Tryd.func42, Tryd.ntmps42
  go_wp2_with fail
  refine (number_err b s l x _ (HA.out _) hs (HE.out _) hb5 hp).mono ?_
  rintro e w1 ⟨rfl, hk1⟩
  exact ⟨rfl, rfl, HK.out _ _ hk1⟩

set_option maxRecDepth 100000 in
set_option maxHeartbeats 1000000 in
theorem single_number (b : Nat) (s : ByteArray) (l : List UInt8) (w : World) (h : AtL b s l w) (hs : s.size ≤ 281474976710656) (he : Env w) (hb5 : 5 ≤ b) (n : Int) (q : List UInt8) (hp : pNumber l = .ok (n, q)) :
    Calls Tryd.prog 42 #[.pointer (some ⟨b, 0, none⟩), .int .u8 58] w fun e w' => e = .returned (One.val ⟨3, [], n⟩) ∧ AtL b s q w' ∧ Kept (one b) w w' := by
  have hbw := h.lt
  have HA : Hid (∀ o, AtL b s l (w.alloc o)) := fun o => h.alloc o
  have HE : Hid (∀ o, Env (w.alloc o)) := fun o => he.below ((Below.refl _ w).alloc (Nat.le_refl _) o)
  have HK : Hid (∀ o w', Kept (one b) (w.alloc o) w' → Kept (one b) w w') := fun o w' hk => ((Kept.refl _ w).alloc o).trans hk
  go_enter Tryd.func42, Tryd.ntmps42
  go_wp2_with fail
  refine (number_ok b s l q n _ (HA.out _) hs (HE.out _) hb5 hp).mono ?_
  rintro e w1 ⟨rfl, ha1, hk1⟩
  obtain ⟨c0, c1, c2, c3, f0, f1, f2, f3⟩ := one_four hbw hk1
  go_wp2_with fail
  obtain ⟨hk2, ha2, hF⟩ := one_put hbw hk1 ha1 (.int .i64 3) (.string ⟨#[]⟩) (.int .i64 n) (.slice none 0 0)
  clear c0 c1 c2 c3 f0 f1 f2 f3
  generalize (((w1.setCell ⟨w.heap.size, 0, none⟩ (.int .i64 3)).setCell ⟨w.heap.size, 1, none⟩ (.string ⟨#[]⟩)).setCell ⟨w.heap.size, 2, none⟩ (.int .i64 n)).setCell ⟨w.heap.size, 3, none⟩ (.slice none 0 0) = w2 at *
  obtain ⟨c0, c1, c2, c3, f0, f1, f2, f3⟩ := hF
  exact bodyPost_ret (v := One.val ⟨3, [], n⟩) (by simp [One.val, results, Tryd.results42, go_sem, c0, c1, c2, c3]) rfl ⟨rfl, ha2, hk2⟩

set_option maxRecDepth 100000 in
set_option maxHeartbeats 1000000 in
theorem single_number_err (b : Nat) (s : ByteArray) (l : List UInt8) (w : World) (h : AtL b s l w) (hs : s.size ≤ 281474976710656) (he : Env w) (hb5 : 5 ≤ b) (x : Nat) (hp : pNumber l = .error x) :
    Calls Tryd.prog 42 #[.pointer (some ⟨b, 0, none⟩), .int .u8 58] w fun e w' => e = .panicked [{ v := .iface 66 (.agg #[.int .i64 (x)]), recovered := false }] ∧ Kept (one b) w w' := by
  have hbw := h.lt
  have HA : Hid (∀ o, AtL b s l (w.alloc o)) := fun o => h.alloc o
  have HE : Hid (∀ o, Env (w.alloc o)) := fun o => he.below ((Below.refl _ w).alloc (Nat.le_refl _) o)
  have HK : Hid (∀ o w', Kept (one b) (w.alloc o) w' → Kept (one b) w w') := fun o w' hk => ((Kept.refl _ w).alloc o).trans hk
  go_enter Tryd.func42, Tryd.ntmps42
  go_wp2_with fail
  refine (number_err b s l x _ (HA.out _) hs (HE.out _) hb5 hp).mono ?_
  rintro e w1 ⟨rfl, hk1⟩
  exact ⟨rfl, rfl, HK.out _ _ hk1⟩

set_option maxRecDepth 100000 in
set_option maxHeartbeats 1000000 in
theorem single_bytes (b : Nat) (s : ByteArray) (l : List UInt8) (w : World) (h : AtL b s l w) (hs : s.size ≤ 281474976710656) (he : Env w) (hb5 : 5 ≤ b) (r : One) (q : List UInt8) (hp : pBytes l = .ok (r, q)) :
    Calls Tryd.prog 42 #[.pointer (some ⟨b, 0, none⟩), .int .u8 36] w fun e w' => e = .returned (One.val r) ∧ AtL b s q w' ∧ Kept (one b) w w' := by
  have hbw := h.lt
  have HA : Hid (∀ o, AtL b s l (w.alloc o)) := fun o => h.alloc o
  have HE : Hid (∀ o, Env (w.alloc o)) := fun o => he.below ((Below.refl _ w).alloc (Nat.le_refl _) o)
  have HK : Hid (∀ o w', Kept (one b) (w.alloc o) w' → Kept (one b) w w') := fun o w' hk => ((Kept.refl _ w).alloc o).trans hk
  obtain ⟨k, t, n⟩ := r
  go_enter Tryd.func42, Tryd.ntmps42
  go_wp2_with fail
  refine (bytes_ok b s l q ⟨k, t, n⟩ _ (HA.out _) hs (HE.out _) hb5 hp).mono ?_
  rintro e w1 ⟨rfl, ha1, hk1⟩
  simp only [One.val]
  obtain ⟨c0, c1, c2, c3, f0, f1, f2, f3⟩ := one_four hbw hk1
  go_wp2_with fail
  obtain ⟨hk2, ha2, hF⟩ := one_put hbw hk1 ha1 (.int .i64 k) (.string ⟨t.toArray⟩) (.int .i64 n) (.slice none 0 0)
  clear c0 c1 c2 c3 f0 f1 f2 f3
  generalize (((w1.setCell ⟨w.heap.size, 0, none⟩ (.int .i64 k)).setCell ⟨w.heap.size, 1, none⟩ (.string ⟨t.toArray⟩)).setCell ⟨w.heap.size, 2, none⟩ (.int .i64 n)).setCell ⟨w.heap.size, 3, none⟩ (.slice none 0 0) = w2 at *
  obtain ⟨c0, c1, c2, c3, f0, f1, f2, f3⟩ := hF
  exact bodyPost_ret (v := One.val ⟨k, t, n⟩) (by simp [One.val, results, Tryd.results42, go_sem, c0, c1, c2, c3]) rfl ⟨rfl, ha2, hk2⟩

set_option maxRecDepth 100000 in
set_option maxHeartbeats 1000000 in
theorem single_bytes_err (b : Nat) (s : ByteArray) (l : List UInt8) (w : World) (h : AtL b s l w) (hs : s.size ≤ 281474976710656) (he : Env w) (hb5 : 5 ≤ b) (x : Nat) (hp : pBytes l = .error x) :
    Calls Tryd.prog 42 #[.pointer (some ⟨b, 0, none⟩), .int .u8 36] w fun e w' => e = .panicked [{ v := .iface 66 (.agg #[.int .i64 (x)]), recovered := false }] ∧ Kept (one b) w w' := by
  have hbw := h.lt
  have HA : Hid (∀ o, AtL b s l (w.alloc o)) := fun o => h.alloc o
  have HE : Hid (∀ o, Env (w.alloc o)) := fun o => he.below ((Below.refl _ w).alloc (Nat.le_refl _) o)
  have HK : Hid (∀ o w', Kept (one b) (w.alloc o) w' → Kept (one b) w w') := fun o w' hk => ((Kept.refl _ w).alloc o).trans hk
  go_enter Tryd.func42, Tryd.ntmps42
  go_wp2_with fail
  refine (bytes_err b s l x _ (HA.out _) hs (HE.out _) hb5 hp).mono ?_
  rintro e w1 ⟨rfl, hk1⟩
  exact ⟨rfl, rfl, HK.out _ _ hk1⟩

set_option maxRecDepth 100000 in
set_option maxHeartbeats 1000000 in
theorem single_none (b : Nat) (c : UInt8) (w : World) (h43 : c ≠ 43) (h45 : c ≠ 45) (h58 : c ≠ 58) (h36 : c ≠ 36) :
    Calls Tryd.prog 42 #[.pointer (some ⟨b, 0, none⟩), .int .u8 ((c.toNat : Nat) : Int)] w fun e w' => e = .panicked [{ v := .iface 66 (.agg #[.int .i64 (1)]), recovered := false }] ∧ Kept (one b) w w' := by
  have k43 : (((c.toNat : Nat) : Int) == 43) = false := by rw [beq_eq_false_iff_ne]; intro e; exact h43 (UInt8.toNat_inj.mp (by simp; omega))
  have k45 : (((c.toNat : Nat) : Int) == 45) = false := by rw [beq_eq_false_iff_ne]; intro e; exact h45 (UInt8.toNat_inj.mp (by simp; omega))
  have k58 : (((c.toNat : Nat) : Int) == 58) = false := by rw [beq_eq_false_iff_ne]; intro e; exact h58 (UInt8.toNat_inj.mp (by simp; omega))
  have k36 : (((c.toNat : Nat) : Int) == 36) = false := by rw [beq_eq_false_iff_ne]; intro e; exact h36 (UInt8.toNat_inj.mp (by simp; omega))
  clear h43 h45 h58 h36
  generalize ((c.toNat : Nat) : Int) = z at *
  have HK : Hid (∀ o, Kept (one b) w (w.alloc o)) := fun o => (Kept.refl _ w).alloc o
  go_enter Tryd.func42, Tryd.ntmps42
  go_wp2_with (go_at_call 43; refine (giveUp_any _ _).mono ?_; rintro e w' ⟨rfl, rfl⟩)
  exact ⟨rfl, rfl, HK.out _⟩

theorem single_any (b : Nat) (s : ByteArray) (c : UInt8) (l : List UInt8) (w : World) (h : AtL b s l w) (hs : s.size ≤ 281474976710656) (he : Env w) (hb5 : 5 ≤ b) :
    Calls Tryd.prog 42 #[.pointer (some ⟨b, 0, none⟩), .int .u8 ((c.toNat : Nat) : Int)] w fun e w' => Kept (one b) w w' ∧
      (∀ r q, pSingle c l = .ok (r, q) → e = .returned r.val ∧ AtL b s q w') ∧ (∀ n, pSingle c l = .error n → e = .panicked [{ v := .iface 66 (.agg #[.int .i64 (n)]), recovered := false }]) := by
  have okc : ∀ (e : Ending) (w' : World) (r : One) (q : List UInt8), pSingle c l = .ok (r, q) → (e = .returned r.val ∧ AtL b s q w' ∧ Kept (one b) w w') → Kept (one b) w w' ∧
      (∀ r q, pSingle c l = .ok (r, q) → e = .returned r.val ∧ AtL b s q w') ∧ (∀ n, pSingle c l = .error n → e = .panicked [{ v := .iface 66 (.agg #[.int .i64 (n)]), recovered := false }]) := by
    rintro e w' r q hp ⟨rfl, ha, hk⟩
    refine ⟨hk, fun r' q' hx => ?_, fun n hx => by rw [hp] at hx; simp at hx⟩
    rw [hp] at hx
    simp at hx
    obtain ⟨rfl, rfl⟩ := hx
    exact ⟨rfl, ha⟩
  have errc : ∀ (e : Ending) (w' : World) (x : Nat), pSingle c l = .error x → (e = .panicked [{ v := .iface 66 (.agg #[.int .i64 (x)]), recovered := false }] ∧ Kept (one b) w w') → Kept (one b) w w' ∧
      (∀ r q, pSingle c l = .ok (r, q) → e = .returned r.val ∧ AtL b s q w') ∧ (∀ n, pSingle c l = .error n → e = .panicked [{ v := .iface 66 (.agg #[.int .i64 (n)]), recovered := false }]) := by
    rintro e w' x hp ⟨rfl, hk⟩
    exact ⟨hk, fun v q hx => by rw [hp] at hx; simp at hx, fun n hx => by rw [hp] at hx; simp at hx; subst hx; rfl⟩
  by_cases h43 : c = 43
  · subst h43
    cases hp : pLine l with
    | error x => exact (single_text_err b s l w h hs he hb5 x hp).mono fun e w' hh => errc e w' x (by simp [pSingle, hp]) hh
    | ok p => obtain ⟨y, q⟩ := p; exact (single_text b s l w h hs he hb5 y q hp).mono fun e w' hh => okc e w' _ q (by simp [pSingle, hp]) hh
  by_cases h45 : c = 45
  · subst h45
    cases hp : pNumber l with
    | error x => exact (single_error_err b s l w h hs he hb5 x hp).mono fun e w' hh => errc e w' x (by simp [pSingle, hp]) hh
    | ok p => obtain ⟨y, q⟩ := p; exact (single_error b s l w h hs he hb5 y q hp).mono fun e w' hh => okc e w' _ q (by simp [pSingle, hp]) hh
  by_cases h58 : c = 58
  · subst h58
    cases hp : pNumber l with
    | error x => exact (single_number_err b s l w h hs he hb5 x hp).mono fun e w' hh => errc e w' x (by simp [pSingle, hp]) hh
    | ok p => obtain ⟨y, q⟩ := p; exact (single_number b s l w h hs he hb5 y q hp).mono fun e w' hh => okc e w' _ q (by simp [pSingle, hp]) hh
  by_cases h36 : c = 36
  · subst h36
    cases hp : pBytes l with
    | error x => exact (single_bytes_err b s l w h hs he hb5 x hp).mono fun e w' hh => errc e w' x (by simp [pSingle, hp]) hh
    | ok p => obtain ⟨y, q⟩ := p; exact (single_bytes b s l w h hs he hb5 y q hp).mono fun e w' hh => okc e w' _ q (by simp [pSingle, hp]) hh
  exact (single_none b c w h43 h45 h58 h36).mono fun e w' hh => errc e w' 1 (by simp [pSingle, h43, h45, h58, h36]) hh
theorem single_ok (b : Nat) (s : ByteArray) (c : UInt8) (l q : List UInt8) (r : One) (w : World) (h : AtL b s l w) (hs : s.size ≤ 281474976710656) (he : Env w) (hb5 : 5 ≤ b) (hp : pSingle c l = .ok (r, q)) :
    Calls Tryd.prog 42 #[.pointer (some ⟨b, 0, none⟩), .int .u8 ((c.toNat : Nat) : Int)] w fun e w' => e = .returned r.val ∧ AtL b s q w' ∧ Kept (one b) w w' :=
  (single_any b s c l w h hs he hb5).mono fun _ _ ⟨h1, h2, _⟩ => ⟨(h2 r q hp).1, (h2 r q hp).2, h1⟩
theorem single_err (b : Nat) (s : ByteArray) (c : UInt8) (l : List UInt8) (n : Nat) (w : World) (h : AtL b s l w) (hs : s.size ≤ 281474976710656) (he : Env w) (hb5 : 5 ≤ b) (hp : pSingle c l = .error n) :
    Calls Tryd.prog 42 #[.pointer (some ⟨b, 0, none⟩), .int .u8 ((c.toNat : Nat) : Int)] w fun e w' => e = .panicked [{ v := .iface 66 (.agg #[.int .i64 (n)]), recovered := false }] ∧ Kept (one b) w w' :=
  (single_any b s c l w h hs he hb5).mono fun _ _ ⟨h1, _, h2⟩ => ⟨h2 n hp, h1⟩
end Go.Proofs.YtolpmaapdkhigaaDoor
