/- WALK of the decoding of all bytes. -/
import Derived.Test.YtolpmaapdkhigaaDoorDec5
import Derived.Handy
namespace Go.Proofs.YtolpmaapdkhigaaDoor
open Go.RowKit

inductive Got where
  | one (r : One)
  | many (rs : List One)
def atEnd (g : Got) : List UInt8 → Except Nat Got
  | [] => .ok g
  | _ :: _ => .error 1
def pAll : List UInt8 → Except Nat Got
  | [] => .error 8
  | c :: l => if c = 42 then (match pList l with | .error e => .error e | .ok (rs, q) => atEnd (.many rs) q)
    else (match pSingle c l with | .error e => .error e | .ok (r, q) => atEnd (.one r) q)
def GotVal (base : Nat) (w : World) (v : Value) : Got → Prop
  | .one r => v = r.val
  | .many rs => ∃ V, v = .agg #[.int .i64 6, .string ⟨#[]⟩, .int .i64 0, V] ∧ w.ownsRow base 24 4 V rs.length (onesRow rs)
def AllPost (b : Nat) (l : List UInt8) (w : World) (e : Ending) (w' : World) : Prop :=
  Kept (one b) w w' ∧ (∀ g, pAll l = .ok g → ∃ v, e = .returned v ∧ GotVal w.heap.size w' v g) ∧ (∀ n, pAll l = .error n → e = .panicked [{ v := .iface 66 (.agg #[.int .i64 (n)]), recovered := false }])
theorem AllPost.err {b : Nat} {l : List UInt8} {w w' : World} {x : Nat} (hp : pAll l = .error x) (hk : Kept (one b) w w') : AllPost b l w (.panicked [{ v := .iface 66 (.agg #[.int .i64 (x)]), recovered := false }]) w' :=
  ⟨hk, fun v hx => by rw [hp] at hx; simp at hx, fun n hx => by rw [hp] at hx; simp at hx; subst hx; rfl⟩
theorem AllPost.ok {b : Nat} {l : List UInt8} {w w' : World} {v : Value} {g : Got} (hp : pAll l = .ok g) (hk : Kept (one b) w w') (hv : GotVal w.heap.size w' v g) : AllPost b l w (.returned v) w' :=
  ⟨hk, fun g' hx => by rw [hp] at hx; simp at hx; subst hx; exact ⟨v, rfl, hv⟩, fun n hx => by rw [hp] at hx; simp at hx⟩
theorem list_ok (b : Nat) (s : ByteArray) (l q : List UInt8) (rs : List One) (w : World) (h : AtL b s l w) (hs : s.size ≤ 281474976710656) (he : Env w) (hb5 : 5 ≤ b) (hp : pList l = .ok (rs, q)) :
    Calls Tryd.prog 41 #[.pointer (some ⟨b, 0, none⟩)] w fun e w' => ∃ V, e = .returned (.agg #[.int .i64 6, .string ⟨#[]⟩, .int .i64 0, V]) ∧ w'.ownsRow w.heap.size 24 4 V rs.length (onesRow rs) ∧ AtL b s q w' ∧ Kept (one b) w w' :=
  (list_any b s l w h hs he hb5).mono fun _ _ ⟨h1, h2, _⟩ => by
    obtain ⟨V, e1, e2, e3⟩ := h2 rs q hp
    exact ⟨V, e1, e2, e3, h1⟩
theorem list_err (b : Nat) (s : ByteArray) (l : List UInt8) (n : Nat) (w : World) (h : AtL b s l w) (hs : s.size ≤ 281474976710656) (he : Env w) (hb5 : 5 ≤ b) (hp : pList l = .error n) :
    Calls Tryd.prog 41 #[.pointer (some ⟨b, 0, none⟩)] w fun e w' => e = .panicked [{ v := .iface 66 (.agg #[.int .i64 (n)]), recovered := false }] ∧ Kept (one b) w w' :=
  (list_any b s l w h hs he hb5).mono fun _ _ ⟨h1, _, h2⟩ => ⟨h2 n hp, h1⟩

set_option maxRecDepth 100000 in
set_option maxHeartbeats 2000000 in
theorem all_short (b : Nat) (s : ByteArray)  (w : World) (h : AtL b s ([]) w) :
    Calls Tryd.prog 25 #[.pointer (some ⟨b, 0, none⟩)] w (AllPost b ([]) w) := by
  have hbw := h.lt
  have HA : Hid (∀ o o2, AtL b s ([]) ((w.alloc o).alloc o2)) := fun o o2 => (h.alloc o).alloc o2
  have HK : Hid (∀ o o2 w', Kept (one b) ((w.alloc o).alloc o2) w' → Kept (one b) w w') := fun o o2 w' hk => (((Kept.refl _ w).alloc o).alloc o2).trans hk
  go_enter Tryd.func25, Tryd.ntmps25
  go_wp2_with fail
  refine (next_short b s _ (HA.out _ _)).mono ?_
  rintro e w1 ⟨rfl, hk1⟩
  exact ⟨rfl, AllPost.err rfl (HK.out _ _ _ hk1)⟩

set_option maxRecDepth 100000 in
set_option maxHeartbeats 2000000 in
theorem all_list_err (b : Nat) (s : ByteArray) (l : List UInt8) (x : Nat) (w : World) (h : AtL b s (42 :: l) w) (hs : s.size ≤ 281474976710656) (he : Env w) (hb5 : 5 ≤ b) (hp : pList l = .error x) :
    Calls Tryd.prog 25 #[.pointer (some ⟨b, 0, none⟩)] w (AllPost b (42 :: l) w) := by
  have hbw := h.lt
  have HA : Hid (∀ o o2, AtL b s (42 :: l) ((w.alloc o).alloc o2)) := fun o o2 => (h.alloc o).alloc o2
  have HK : Hid (∀ o o2 w', Kept (one b) ((w.alloc o).alloc o2) w' → Kept (one b) w w') := fun o o2 w' hk => (((Kept.refl _ w).alloc o).alloc o2).trans hk
  have HP : pAll (42 :: l) = .error x := by simp [pAll, hp]
  go_enter Tryd.func25, Tryd.ntmps25
  go_wp2_with fail
  refine (next_ok b s 42 l _ (HA.out _ _)).mono ?_
  rintro e w1 ⟨rfl, ha1, hk1⟩
  have he1 : Env w1 := he.kept (HK.out _ _ _ hk1) (fun k e => by simp only [one] at e; omega)
  go_wp2_with fail
  refine (list_err b s l x w1 ha1 hs he1 hb5 hp).mono ?_
  rintro e w2 ⟨rfl, hk2⟩
  exact ⟨rfl, AllPost.err HP (HK.out _ _ _ (hk1.trans hk2))⟩

set_option maxRecDepth 100000 in
set_option maxHeartbeats 2000000 in
theorem all_list_ok (b : Nat) (s : ByteArray) (l : List UInt8) (rs : List One) (w : World) (h : AtL b s (42 :: l) w) (hs : s.size ≤ 281474976710656) (he : Env w) (hb5 : 5 ≤ b) (hp : pList l = .ok (rs, [])) :
    Calls Tryd.prog 25 #[.pointer (some ⟨b, 0, none⟩)] w (AllPost b (42 :: l) w) := by
  have hbw := h.lt
  have HA : Hid (∀ o o2, AtL b s (42 :: l) ((w.alloc o).alloc o2)) := fun o o2 => (h.alloc o).alloc o2
  have HK : Hid (∀ o o2 w', Kept (one b) ((w.alloc o).alloc o2) w' → Kept (one b) w w') := fun o o2 w' hk => (((Kept.refl _ w).alloc o).alloc o2).trans hk
  have HP : pAll (42 :: l) = .ok (.many rs) := by simp [pAll, hp, atEnd]
  go_enter Tryd.func25, Tryd.ntmps25
  go_wp2_with fail
  refine (next_ok b s 42 l _ (HA.out _ _)).mono ?_
  rintro e w1 ⟨rfl, ha1, hk1⟩
  have he1 : Env w1 := he.kept (HK.out _ _ _ hk1) (fun k e => by simp only [one] at e; omega)
  have hsz1 : w.heap.size + 2 ≤ w1.heap.size := by have := hk1.size; simp at this; omega
  go_wp2_with fail
  refine (list_ok b s l _ rs w1 ha1 hs he1 hb5 hp).mono ?_
  rintro e w2 ⟨V, rfl, hown, ha2, hk2⟩
  obtain ⟨ao, cp, rfl⟩ := rowSlice hown
  obtain ⟨hB0, hB1⟩ := two_blocks hbw (hk1.trans hk2)
  obtain ⟨c0, c1, c2, c3, f0, f1, f2, f3⟩ := four_of hB1
  have HB0 := hide hB0
  have HB1 := hide hB1
  clear hB0 hB1
  go_wp2_with fail
  have hk3 := put4_kept (Kept.refl (one (w.heap.size + 1)) w2) (.inr rfl) (.int .i64 6) (.string ⟨#[]⟩) (.int .i64 0) (.slice ao rs.length cp)
  have HB3 := hide (put4_heap HB1.out (.int .i64 6) (.string ⟨#[]⟩) (.int .i64 0) (.slice ao rs.length cp))
  clear c0 c1 c2 c3 f0 f1 f2 f3
  generalize (((w2.setCell ⟨w.heap.size + 1, 0, none⟩ (.int .i64 6)).setCell ⟨w.heap.size + 1, 1, none⟩ (.string ⟨#[]⟩)).setCell ⟨w.heap.size + 1, 2, none⟩ (.int .i64 0)).setCell ⟨w.heap.size + 1, 3, none⟩ (.slice ao rs.length cp) = w3 at *
  have ha3 := ha2.kept hk3 (fun e => by simp only [one] at e; omega)
  have HB03 := hide ((hk3.block w.heap.size (by have := hk2.size; omega) (fun e => by simp only [one] at e; omega)).trans HB0.out)
  refine (done_nil b s w3 ha3).mono ?_
  rintro e w' ⟨rfl, nd, rfl⟩
  obtain ⟨c0, c1, c2, c3, f0, f1, f2, f3⟩ := four_of HB3.out
  obtain ⟨e0, e1, e2, e3, g0, g1, g2, g3⟩ := four_of HB03.out
  go_wp2_with fail
  have hh2 := put4_heap (w := w3.drewN nd) HB03.out (.int .i64 6) (.string ⟨#[]⟩) (.int .i64 0) (.slice ao rs.length cp)
  have hk4 := put4_kept (Kept.refl (one w.heap.size) (w3.drewN nd)) (.inr rfl) (.int .i64 6) (.string ⟨#[]⟩) (.int .i64 0) (.slice ao rs.length cp)
  clear c0 c1 c2 c3 f0 f1 f2 f3 e0 e1 e2 e3 g0 g1 g2 g3
  generalize ((((w3.drewN nd).setCell ⟨w.heap.size, 0, none⟩ (.int .i64 6)).setCell ⟨w.heap.size, 1, none⟩ (.string ⟨#[]⟩)).setCell ⟨w.heap.size, 2, none⟩ (.int .i64 0)).setCell ⟨w.heap.size, 3, none⟩ (.slice ao rs.length cp) = w4 at *
  obtain ⟨c0, c1, c2, c3, f0, f1, f2, f3⟩ := four_of hh2
  have hk34 : Kept (fun j => w.heap.size ≤ j ∧ j < w.heap.size + 2) w2 w4 := ((hk3.mono (fun j _ e => by simp only [one] at e; omega)).drewN nd).trans (hk4.mono (fun j _ e => by simp only [one] at e; omega))
  have hkw : Kept (one b) w w4 := (((HK.out _ _ _ (hk1.trans hk2)).mono (T := fun j => one b j ∨ w.heap.size ≤ j) (fun _ _ e => .inl e)).trans (hk34.mono (fun j _ e => .inr e.1))).mono (fun j hj e => by rcases e with e | e; exact e; omega)
  have hown4 := hk34.owns hown (fun j hj e => by have := (hown.lt j hj).1; omega)
  exact bodyPost_ret (v := .agg #[.int .i64 6, .string ⟨#[]⟩, .int .i64 0, .slice ao rs.length cp]) (by simp [results, Tryd.results25, go_sem, c0, c1, c2, c3]) rfl (AllPost.ok HP hkw ⟨_, rfl, ownsRow_low hown4 (by omega)⟩)

set_option maxRecDepth 100000 in
set_option maxHeartbeats 2000000 in
theorem all_list_more (b : Nat) (s : ByteArray) (l q : List UInt8) (d : UInt8) (rs : List One) (w : World) (h : AtL b s (42 :: l) w) (hs : s.size ≤ 281474976710656) (he : Env w) (hb5 : 5 ≤ b) (hp : pList l = .ok (rs, d :: q)) :
    Calls Tryd.prog 25 #[.pointer (some ⟨b, 0, none⟩)] w (AllPost b (42 :: l) w) := by
  have hbw := h.lt
  have HA : Hid (∀ o o2, AtL b s (42 :: l) ((w.alloc o).alloc o2)) := fun o o2 => (h.alloc o).alloc o2
  have HK : Hid (∀ o o2 w', Kept (one b) ((w.alloc o).alloc o2) w' → Kept (one b) w w') := fun o o2 w' hk => (((Kept.refl _ w).alloc o).alloc o2).trans hk
  have HP : pAll (42 :: l) = .error 1 := by simp [pAll, hp, atEnd]
  go_enter Tryd.func25, Tryd.ntmps25
  go_wp2_with fail
  refine (next_ok b s 42 l _ (HA.out _ _)).mono ?_
  rintro e w1 ⟨rfl, ha1, hk1⟩
  have he1 : Env w1 := he.kept (HK.out _ _ _ hk1) (fun k e => by simp only [one] at e; omega)
  have hsz1 : w.heap.size + 2 ≤ w1.heap.size := by have := hk1.size; simp at this; omega
  go_wp2_with fail
  refine (list_ok b s l _ rs w1 ha1 hs he1 hb5 hp).mono ?_
  rintro e w2 ⟨V, rfl, hown, ha2, hk2⟩
  obtain ⟨ao, cp, rfl⟩ := rowSlice hown
  obtain ⟨hB0, hB1⟩ := two_blocks hbw (hk1.trans hk2)
  obtain ⟨c0, c1, c2, c3, f0, f1, f2, f3⟩ := four_of hB1
  have HB0 := hide hB0
  have HB1 := hide hB1
  clear hB0 hB1
  go_wp2_with fail
  have hk3 := put4_kept (Kept.refl (one (w.heap.size + 1)) w2) (.inr rfl) (.int .i64 6) (.string ⟨#[]⟩) (.int .i64 0) (.slice ao rs.length cp)
  have HB3 := hide (put4_heap HB1.out (.int .i64 6) (.string ⟨#[]⟩) (.int .i64 0) (.slice ao rs.length cp))
  clear c0 c1 c2 c3 f0 f1 f2 f3
  generalize (((w2.setCell ⟨w.heap.size + 1, 0, none⟩ (.int .i64 6)).setCell ⟨w.heap.size + 1, 1, none⟩ (.string ⟨#[]⟩)).setCell ⟨w.heap.size + 1, 2, none⟩ (.int .i64 0)).setCell ⟨w.heap.size + 1, 3, none⟩ (.slice ao rs.length cp) = w3 at *
  have ha3 := ha2.kept hk3 (fun e => by simp only [one] at e; omega)
  have HB03 := hide ((hk3.block w.heap.size (by have := hk2.size; omega) (fun e => by simp only [one] at e; omega)).trans HB0.out)
  refine (done_cons b s d q w3 ha3).mono ?_
  rintro e w' ⟨rfl, nd, rfl⟩
  have hkw : Kept (one b) w (w3.drewN nd) := (((HK.out _ _ _ (hk1.trans hk2)).mono (T := fun j => one b j ∨ w.heap.size ≤ j) (fun _ _ e => .inl e)).trans ((hk3.mono (fun j _ e => .inr (by simp only [one] at e; omega))).drewN nd)).mono (fun j hj e => by rcases e with e | e; exact e; omega)
  go_wp2_with (go_at_call 43; refine (giveUp_any _ _).mono ?_; rintro e w' ⟨rfl, rfl⟩)
  exact ⟨rfl, AllPost.err HP hkw⟩

set_option maxRecDepth 100000 in
set_option maxHeartbeats 2000000 in
theorem all_one_err (b : Nat) (s : ByteArray) (c : UInt8) (l : List UInt8) (x : Nat) (w : World) (h : AtL b s (c :: l) w) (hs : s.size ≤ 281474976710656) (he : Env w) (hb5 : 5 ≤ b) (h42 : c ≠ 42) (hp : pSingle c l = .error x) :
    Calls Tryd.prog 25 #[.pointer (some ⟨b, 0, none⟩)] w (AllPost b (c :: l) w) := by
  have hbw := h.lt
  have HA : Hid (∀ o o2, AtL b s (c :: l) ((w.alloc o).alloc o2)) := fun o o2 => (h.alloc o).alloc o2
  have HK : Hid (∀ o o2 w', Kept (one b) ((w.alloc o).alloc o2) w' → Kept (one b) w w') := fun o o2 w' hk => (((Kept.refl _ w).alloc o).alloc o2).trans hk
  have HP : pAll (c :: l) = .error x := by simp [pAll, hp, h42]
  have k42 : (((c.toNat : Nat) : Int) == 42) = false := by rw [beq_eq_false_iff_ne]; intro e; exact h42 (UInt8.toNat_inj.mp (by simp; omega))
  go_enter Tryd.func25, Tryd.ntmps25
  go_wp2_with fail
  refine (next_ok b s c l _ (HA.out _ _)).mono ?_
  rintro e w1 ⟨rfl, ha1, hk1⟩
  have he1 : Env w1 := he.kept (HK.out _ _ _ hk1) (fun k e => by simp only [one] at e; omega)
  go_wp2_with fail
  refine (single_err b s c l x w1 ha1 hs he1 hb5 hp).mono ?_
  rintro e w2 ⟨rfl, hk2⟩
  exact ⟨rfl, AllPost.err HP (HK.out _ _ _ (hk1.trans hk2))⟩

set_option maxRecDepth 100000 in
set_option maxHeartbeats 2000000 in
theorem all_one_ok (b : Nat) (s : ByteArray) (c : UInt8) (l : List UInt8) (r : One) (w : World) (h : AtL b s (c :: l) w) (hs : s.size ≤ 281474976710656) (he : Env w) (hb5 : 5 ≤ b) (h42 : c ≠ 42) (hp : pSingle c l = .ok (r, [])) :
    Calls Tryd.prog 25 #[.pointer (some ⟨b, 0, none⟩)] w (AllPost b (c :: l) w) := by
  have hbw := h.lt
  have HA : Hid (∀ o o2, AtL b s (c :: l) ((w.alloc o).alloc o2)) := fun o o2 => (h.alloc o).alloc o2
  have HK : Hid (∀ o o2 w', Kept (one b) ((w.alloc o).alloc o2) w' → Kept (one b) w w') := fun o o2 w' hk => (((Kept.refl _ w).alloc o).alloc o2).trans hk
  have HP : pAll (c :: l) = .ok (.one r) := by simp [pAll, hp, h42, atEnd]
  have k42 : (((c.toNat : Nat) : Int) == 42) = false := by rw [beq_eq_false_iff_ne]; intro e; exact h42 (UInt8.toNat_inj.mp (by simp; omega))
  obtain ⟨k, t, n⟩ := r
  go_enter Tryd.func25, Tryd.ntmps25
  go_wp2_with fail
  refine (next_ok b s c l _ (HA.out _ _)).mono ?_
  rintro e w1 ⟨rfl, ha1, hk1⟩
  have he1 : Env w1 := he.kept (HK.out _ _ _ hk1) (fun k e => by simp only [one] at e; omega)
  have hsz1 : w.heap.size + 2 ≤ w1.heap.size := by have := hk1.size; simp at this; omega
  go_wp2_with fail
  refine (single_ok b s c l _ ⟨k, t, n⟩ w1 ha1 hs he1 hb5 hp).mono ?_
  rintro e w2 ⟨rfl, ha2, hk2⟩
  simp only [One.val]
  obtain ⟨hB0, hB1⟩ := two_blocks hbw (hk1.trans hk2)
  obtain ⟨c0, c1, c2, c3, f0, f1, f2, f3⟩ := four_of hB1
  have HB0 := hide hB0
  have HB1 := hide hB1
  clear hB0 hB1
  go_wp2_with fail
  have hk3 := put4_kept (Kept.refl (one (w.heap.size + 1)) w2) (.inr rfl) (.int .i64 k) (.string ⟨t.toArray⟩) (.int .i64 n) (.slice none 0 0)
  have HB3 := hide (put4_heap HB1.out (.int .i64 k) (.string ⟨t.toArray⟩) (.int .i64 n) (.slice none 0 0))
  clear c0 c1 c2 c3 f0 f1 f2 f3
  generalize (((w2.setCell ⟨w.heap.size + 1, 0, none⟩ (.int .i64 k)).setCell ⟨w.heap.size + 1, 1, none⟩ (.string ⟨t.toArray⟩)).setCell ⟨w.heap.size + 1, 2, none⟩ (.int .i64 n)).setCell ⟨w.heap.size + 1, 3, none⟩ (.slice none 0 0) = w3 at *
  have ha3 := ha2.kept hk3 (fun e => by simp only [one] at e; omega)
  have HB03 := hide ((hk3.block w.heap.size (by have := hk2.size; omega) (fun e => by simp only [one] at e; omega)).trans HB0.out)
  refine (done_nil b s w3 ha3).mono ?_
  rintro e w' ⟨rfl, nd, rfl⟩
  obtain ⟨c0, c1, c2, c3, f0, f1, f2, f3⟩ := four_of HB3.out
  obtain ⟨e0, e1, e2, e3, g0, g1, g2, g3⟩ := four_of HB03.out
  go_wp2_with fail
  have hh2 := put4_heap (w := w3.drewN nd) HB03.out (.int .i64 k) (.string ⟨t.toArray⟩) (.int .i64 n) (.slice none 0 0)
  have hk4 := put4_kept (Kept.refl (one w.heap.size) (w3.drewN nd)) (.inr rfl) (.int .i64 k) (.string ⟨t.toArray⟩) (.int .i64 n) (.slice none 0 0)
  clear c0 c1 c2 c3 f0 f1 f2 f3 e0 e1 e2 e3 g0 g1 g2 g3
  generalize ((((w3.drewN nd).setCell ⟨w.heap.size, 0, none⟩ (.int .i64 k)).setCell ⟨w.heap.size, 1, none⟩ (.string ⟨t.toArray⟩)).setCell ⟨w.heap.size, 2, none⟩ (.int .i64 n)).setCell ⟨w.heap.size, 3, none⟩ (.slice none 0 0) = w4 at *
  obtain ⟨c0, c1, c2, c3, f0, f1, f2, f3⟩ := four_of hh2
  have hk34 : Kept (fun j => w.heap.size ≤ j ∧ j < w.heap.size + 2) w2 w4 := ((hk3.mono (fun j _ e => by simp only [one] at e; omega)).drewN nd).trans (hk4.mono (fun j _ e => by simp only [one] at e; omega))
  have hkw : Kept (one b) w w4 := (((HK.out _ _ _ (hk1.trans hk2)).mono (T := fun j => one b j ∨ w.heap.size ≤ j) (fun _ _ e => .inl e)).trans (hk34.mono (fun j _ e => .inr e.1))).mono (fun j hj e => by rcases e with e | e; exact e; omega)
  exact bodyPost_ret (v := One.val ⟨k, t, n⟩) (by simp [One.val, results, Tryd.results25, go_sem, c0, c1, c2, c3]) rfl (AllPost.ok HP hkw rfl)

set_option maxRecDepth 100000 in
set_option maxHeartbeats 2000000 in
theorem all_one_more (b : Nat) (s : ByteArray) (c : UInt8) (l q : List UInt8) (d : UInt8) (r : One) (w : World) (h : AtL b s (c :: l) w) (hs : s.size ≤ 281474976710656) (he : Env w) (hb5 : 5 ≤ b) (h42 : c ≠ 42) (hp : pSingle c l = .ok (r, d :: q)) :
    Calls Tryd.prog 25 #[.pointer (some ⟨b, 0, none⟩)] w (AllPost b (c :: l) w) := by
  have hbw := h.lt
  have HA : Hid (∀ o o2, AtL b s (c :: l) ((w.alloc o).alloc o2)) := fun o o2 => (h.alloc o).alloc o2
  have HK : Hid (∀ o o2 w', Kept (one b) ((w.alloc o).alloc o2) w' → Kept (one b) w w') := fun o o2 w' hk => (((Kept.refl _ w).alloc o).alloc o2).trans hk
  have HP : pAll (c :: l) = .error 1 := by simp [pAll, hp, h42, atEnd]
  have k42 : (((c.toNat : Nat) : Int) == 42) = false := by rw [beq_eq_false_iff_ne]; intro e; exact h42 (UInt8.toNat_inj.mp (by simp; omega))
  obtain ⟨k, t, n⟩ := r
  go_enter Tryd.func25, Tryd.ntmps25
  go_wp2_with fail
  refine (next_ok b s c l _ (HA.out _ _)).mono ?_
  rintro e w1 ⟨rfl, ha1, hk1⟩
  have he1 : Env w1 := he.kept (HK.out _ _ _ hk1) (fun k e => by simp only [one] at e; omega)
  have hsz1 : w.heap.size + 2 ≤ w1.heap.size := by have := hk1.size; simp at this; omega
  go_wp2_with fail
  refine (single_ok b s c l _ ⟨k, t, n⟩ w1 ha1 hs he1 hb5 hp).mono ?_
  rintro e w2 ⟨rfl, ha2, hk2⟩
  simp only [One.val]
  obtain ⟨hB0, hB1⟩ := two_blocks hbw (hk1.trans hk2)
  obtain ⟨c0, c1, c2, c3, f0, f1, f2, f3⟩ := four_of hB1
  have HB0 := hide hB0
  have HB1 := hide hB1
  clear hB0 hB1
  go_wp2_with fail
  have hk3 := put4_kept (Kept.refl (one (w.heap.size + 1)) w2) (.inr rfl) (.int .i64 k) (.string ⟨t.toArray⟩) (.int .i64 n) (.slice none 0 0)
  have HB3 := hide (put4_heap HB1.out (.int .i64 k) (.string ⟨t.toArray⟩) (.int .i64 n) (.slice none 0 0))
  clear c0 c1 c2 c3 f0 f1 f2 f3
  generalize (((w2.setCell ⟨w.heap.size + 1, 0, none⟩ (.int .i64 k)).setCell ⟨w.heap.size + 1, 1, none⟩ (.string ⟨t.toArray⟩)).setCell ⟨w.heap.size + 1, 2, none⟩ (.int .i64 n)).setCell ⟨w.heap.size + 1, 3, none⟩ (.slice none 0 0) = w3 at *
  have ha3 := ha2.kept hk3 (fun e => by simp only [one] at e; omega)
  have HB03 := hide ((hk3.block w.heap.size (by have := hk2.size; omega) (fun e => by simp only [one] at e; omega)).trans HB0.out)
  refine (done_cons b s d q w3 ha3).mono ?_
  rintro e w' ⟨rfl, nd, rfl⟩
  have hkw : Kept (one b) w (w3.drewN nd) := (((HK.out _ _ _ (hk1.trans hk2)).mono (T := fun j => one b j ∨ w.heap.size ≤ j) (fun _ _ e => .inl e)).trans ((hk3.mono (fun j _ e => .inr (by simp only [one] at e; omega))).drewN nd)).mono (fun j hj e => by rcases e with e | e; exact e; omega)
  go_wp2_with (go_at_call 43; refine (giveUp_any _ _).mono ?_; rintro e w' ⟨rfl, rfl⟩)
  exact ⟨rfl, AllPost.err HP hkw⟩

theorem all_any (b : Nat) (s : ByteArray) (l : List UInt8) (w : World) (h : AtL b s l w) (hs : s.size ≤ 281474976710656) (he : Env w) (hb5 : 5 ≤ b) :
    Calls Tryd.prog 25 #[.pointer (some ⟨b, 0, none⟩)] w (AllPost b l w) := by
  cases l with
  | nil => exact all_short b s w h
  | cons c l =>
    by_cases h42 : c = 42
    · subst h42
      cases hp : pList l with
      | error x => exact all_list_err b s l x w h hs he hb5 hp
      | ok p =>
        obtain ⟨rs, q⟩ := p
        cases q with
        | nil => exact all_list_ok b s l rs w h hs he hb5 hp
        | cons d q => exact all_list_more b s l q d rs w h hs he hb5 hp
    · cases hp : pSingle c l with
      | error x => exact all_one_err b s c l x w h hs he hb5 h42 hp
      | ok p =>
        obtain ⟨r, q⟩ := p
        cases q with
        | nil => exact all_one_ok b s c l r w h hs he hb5 h42 hp
        | cons d q => exact all_one_more b s c l q d r w h hs he hb5 h42 hp
end Go.Proofs.YtolpmaapdkhigaaDoor
