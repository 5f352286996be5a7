/- WALKS of the decoding of single replies. -/
import Derived.Test.YtolpmaapdkhigaaDoorDec2
import Derived.Handy
namespace Go.Proofs.YtolpmaapdkhigaaDoor
open Go.RowKit

/-- a reply that is no list -/
structure One where
  k : Int
  t : List UInt8
  n : Int
def One.val (r : One) : Value := .agg #[.int .i64 r.k, .string ⟨r.t.toArray⟩, .int .i64 r.n, .slice none 0 0]

theorem setCell_heap {w : World} {g : Nat} {cs : Array Value} {T : Nat} {fr : Nat × Nat} (h : w.heap[g]? = some (.cells cs T fr)) (o : Nat) (u : Value) : (w.setCell ⟨g, o, none⟩ u).heap[g]? = some (.cells (cs.setIfInBounds o u) T fr) := by
  simp [World.setCell, Array.getElem?_modify, h]
/-- four cells stored one behind the other -/
theorem put4_heap {w : World} {g T : Nat} {x0 x1 x2 x3 : Value} (h : w.heap[g]? = some (.cells #[x0, x1, x2, x3] T (0, 0))) (a b c d : Value) :
    ((((w.setCell ⟨g, 0, none⟩ a).setCell ⟨g, 1, none⟩ b).setCell ⟨g, 2, none⟩ c).setCell ⟨g, 3, none⟩ d).heap[g]? = some (.cells #[a, b, c, d] T (0, 0)) := by
  have h1 := setCell_heap h 0 a
  have h2 := setCell_heap h1 1 b
  have h3 := setCell_heap h2 2 c
  have h4 := setCell_heap h3 3 d
  rw [h4]
  rfl
theorem put4_kept {S : Nat → Prop} {w0 w : World} {g : Nat} (h : Kept S w0 w) (hg : w0.heap.size ≤ g ∨ S g) (a b c d : Value) :
    Kept S w0 ((((w.setCell ⟨g, 0, none⟩ a).setCell ⟨g, 1, none⟩ b).setCell ⟨g, 2, none⟩ c).setCell ⟨g, 3, none⟩ d) := by
  have h' : S g ∨ w0.heap.size ≤ g := hg.symm
  exact (((h.setCell (p := ⟨g, 0, none⟩) h' a).setCell (p := ⟨g, 1, none⟩) h' b).setCell (p := ⟨g, 2, none⟩) h' c).setCell (p := ⟨g, 3, none⟩) h' d
/-- a block of four cells, cell by cell -/
structure Four (w : World) (g : Nat) (a b c d : Value) : Prop where
  c0 : w.cell? ⟨g, 0, none⟩ = some a
  c1 : w.cell? ⟨g, 1, none⟩ = some b
  c2 : w.cell? ⟨g, 2, none⟩ = some c
  c3 : w.cell? ⟨g, 3, none⟩ = some d
  f0 : w.frozen? ⟨g, 0, none⟩ = false
  f1 : w.frozen? ⟨g, 1, none⟩ = false
  f2 : w.frozen? ⟨g, 2, none⟩ = false
  f3 : w.frozen? ⟨g, 3, none⟩ = false
theorem four_of {w : World} {g T : Nat} {a b c d : Value} (h : w.heap[g]? = some (.cells #[a, b, c, d] T (0, 0))) : Four w g a b c d :=
  ⟨by simp [World.cell?, h], by simp [World.cell?, h], by simp [World.cell?, h], by simp [World.cell?, h], by simp [World.frozen?, h], by simp [World.frozen?, h], by simp [World.frozen?, h], by simp [World.frozen?, h]⟩

/-- the bytes of a reply, as a plain function -/
def pBytes (l : List UInt8) : Except Nat (One × List UInt8) :=
  match pNumber l with
  | .error e => .error e
  | .ok (n, q) => if n = -1 then .ok (⟨5, [], 0⟩, q) else if n < 0 then .error 1 else if q.length < n.toNat then .error 8 else
    match pMust [13, 10] (q.drop n.toNat) with
    | .error e => .error e
    | .ok q2 => .ok (⟨4, q.take n.toNat, 0⟩, q2)
def pSingle (c : UInt8) (l : List UInt8) : Except Nat (One × List UInt8) :=
  if c = 43 then (match pLine l with | .error e => .error e | .ok (x, q) => .ok (⟨1, x, 0⟩, q))
  else if c = 45 then (match pNumber l with | .error e => .error e | .ok (n, q) => .ok (⟨2, [], n⟩, q))
  else if c = 58 then (match pNumber l with | .error e => .error e | .ok (n, q) => .ok (⟨3, [], n⟩, q))
  else if c = 36 then pBytes l else .error 1

theorem must2_err_at (b g : Nat) (s : ByteArray) (l : List UInt8) (x : Nat) (w : World) (h : AtL b s l w) (hg : g = w.heap.size) (hp : pMust [13, 10] l = .error x) :
    Calls Tryd.prog 51 #[.pointer (some ⟨b, 0, none⟩), .slice (some ⟨g, 0, none⟩) 2 2] (w.alloc (.cells #[.int .u8 13, .int .u8 10] 5)) fun e w' => e = .panicked [{ v := .iface 66 (.agg #[.int .i64 (x)]), recovered := false }] ∧ Kept (one b) w w' := by
  subst hg
  exact must2_err b s l x w h hp
theorem must2_ok_at (b g : Nat) (s : ByteArray) (l r : List UInt8) (w : World) (h : AtL b s l w) (hg : g = w.heap.size) (hp : pMust [13, 10] l = .ok r) :
    Calls Tryd.prog 51 #[.pointer (some ⟨b, 0, none⟩), .slice (some ⟨g, 0, none⟩) 2 2] (w.alloc (.cells #[.int .u8 13, .int .u8 10] 5)) fun e w' => e = .returned (.tuple #[]) ∧ AtL b s r w' ∧ Kept (one b) w w' := by
  subst hg
  exact must2_ok b s l r w h hp

set_option maxRecDepth 100000 in
set_option maxHeartbeats 1000000 in
theorem bytes_end (b : Nat) (s : ByteArray) (l : List UInt8) (w : World) (h : AtL b s l w) (hs : s.size ≤ 281474976710656) (he : Env w) (hb5 : 5 ≤ b)
    (q : List UInt8) (m x : Nat) (hp : pNumber l = .ok ((m : Int), q)) (h3 : m ≤ q.length) (hm : pMust [13, 10] (q.drop m) = .error x) :
    Calls Tryd.prog 59 #[.pointer (some ⟨b, 0, none⟩)] w fun e w' => e = .panicked [{ v := .iface 66 (.agg #[.int .i64 (x)]), recovered := false }] ∧ Kept (one b) w w' := by
  have hbw := h.lt
  have HA : Hid (∀ o, AtL b s l (w.alloc o)) := fun o => h.alloc o
  have HE : Hid (∀ o, Env (w.alloc o)) := fun o => he.below ((Below.refl _ w).alloc (Nat.le_refl _) o)
  have HK : Hid (∀ o w', Kept (one b) (w.alloc o) w' → Kept (one b) w w') := fun o w' hk => ((Kept.refl _ w).alloc o).trans hk
  obtain ⟨hn1, hn2, hq1, hq2⟩ := pNumber_bounds hp
  go_enter Tryd.func59, Tryd.ntmps59
  go_wp2_with fail
  refine (number_ok b s l q m _ (HA.out _) hs (HE.out _) hb5 hp).mono ?_
  rintro e w1 ⟨rfl, ha1, hk1⟩
  go_wp2_with fail
  refine (take_ok b s q m w1 ha1 (by omega) hs).mono ?_
  rintro e w2 ⟨rfl, ha2, hk2⟩
  go_wp2_with fail
  refine (must2_err_at b _ s _ x _ (ha2.alloc _) (by simp) hm).mono ?_
  rintro e w3 ⟨rfl, hk3⟩
  exact ⟨rfl, rfl, (((HK.out _ _ hk1).trans hk2).alloc _).trans hk3⟩

set_option maxRecDepth 100000 in
set_option maxHeartbeats 1000000 in
theorem bytes_all (b : Nat) (s : ByteArray) (l : List UInt8) (w : World) (h : AtL b s l w) (hs : s.size ≤ 281474976710656) (he : Env w) (hb5 : 5 ≤ b)
    (q : List UInt8) (m : Nat) (q2 : List UInt8) (hp : pNumber l = .ok ((m : Int), q)) (h3 : m ≤ q.length) (hm : pMust [13, 10] (q.drop m) = .ok q2) :
    Calls Tryd.prog 59 #[.pointer (some ⟨b, 0, none⟩)] w fun e w' => e = .returned (One.val ⟨4, q.take m, 0⟩) ∧ AtL b s q2 w' ∧ Kept (one b) w w' := by
  have hbw := h.lt
  have HA : Hid (∀ o, AtL b s l (w.alloc o)) := fun o => h.alloc o
  have HE : Hid (∀ o, Env (w.alloc o)) := fun o => he.below ((Below.refl _ w).alloc (Nat.le_refl _) o)
  have HK : Hid (∀ o w', Kept (one b) (w.alloc o) w' → Kept (one b) w w') := fun o w' hk => ((Kept.refl _ w).alloc o).trans hk
  have hcell : Hid (∀ o w', Kept (one b) (w.alloc o) w' → w'.heap[w.heap.size]? = some o ∧ w.heap.size < w'.heap.size) := fun o w' hk => by
    have h1 := hk.block w.heap.size (by simp) (fun e => by simp only [one] at e; omega)
    refine ⟨h1.trans (heap_alloc_new w o), ?_⟩
    have := hk.size
    simp at this
    omega
  obtain ⟨hn1, hn2, hq1, hq2⟩ := pNumber_bounds hp
  go_enter Tryd.func59, Tryd.ntmps59
  go_wp2_with fail
  refine (number_ok b s l q m _ (HA.out _) hs (HE.out _) hb5 hp).mono ?_
  rintro e w1 ⟨rfl, ha1, hk1⟩
  go_wp2_with fail
  refine (take_ok b s q m w1 ha1 (by omega) hs).mono ?_
  rintro e w2 ⟨rfl, ha2, hk2⟩
  have hlt2 := ha2.lt
  go_wp2_with fail
  refine (must2_ok_at b _ s _ q2 _ (ha2.alloc _) (by simp) hm).mono ?_
  rintro e w3 ⟨rfl, ha3, hk3⟩
  have HR : w3.heap[w2.heap.size]? = some (.cells #[.int .i64 4, .string ⟨(q.take m).toArray⟩, .int .i64 0, .slice none 0 0] 24) :=
    (hk3.block w2.heap.size (by simp) (fun e => by simp only [one] at e; omega)).trans (heap_alloc_new w2 _)
  have HO := (hcell.out _ _ (((hk1.trans hk2).alloc _).trans hk3))
  obtain ⟨hh1, hz1⟩ := HO
  have hne : w2.heap.size ≠ w.heap.size := by have := (hcell.out _ _ (hk1.trans hk2)).2; omega
  obtain ⟨c0, c1, c2, c3, f0, f1, f2, f3⟩ := four_of hh1
  obtain ⟨d0, d1, d2, d3, e0, e1, e2, e3⟩ := four_of HR
  have HH := hide hh1
  clear hh1 HR
  go_wp2_with fail
  have hh2 := put4_heap HH.out (.int .i64 4) (.string ⟨(q.take m).toArray⟩) (.int .i64 0) (.slice none 0 0)
  have hk4 := put4_kept ((((HK.out _ _ hk1).trans hk2).alloc _).trans hk3) (.inl (Nat.le_refl w.heap.size)) (.int .i64 4) (.string ⟨(q.take m).toArray⟩) (.int .i64 0) (.slice none 0 0)
  have ha4 := ha3.kept (put4_kept (Kept.refl (one w.heap.size) w3) (.inr rfl) (.int .i64 4) (.string ⟨(q.take m).toArray⟩) (.int .i64 0) (.slice none 0 0)) (fun e => by simp only [one] at e; omega)
  clear c0 c1 c2 c3 f0 f1 f2 f3
  generalize (((w3.setCell ⟨w.heap.size, 0, none⟩ (.int .i64 4)).setCell ⟨w.heap.size, 1, none⟩ (.string ⟨(q.take m).toArray⟩)).setCell ⟨w.heap.size, 2, none⟩ (.int .i64 0)).setCell ⟨w.heap.size, 3, none⟩ (.slice none 0 0) = w4 at *
  obtain ⟨c0, c1, c2, c3, f0, f1, f2, f3⟩ := four_of hh2
  exact bodyPost_ret (v := One.val ⟨4, q.take m, 0⟩) (by simp [One.val, results, Tryd.results59, go_sem, c0, c1, c2, c3]) rfl ⟨rfl, ha4, hk4⟩

set_option maxRecDepth 100000 in
set_option maxHeartbeats 1000000 in
theorem bytes_any (b : Nat) (s : ByteArray) (l : List UInt8) (w : World) (h : AtL b s l w) (hs : s.size ≤ 281474976710656) (he : Env w) (hb5 : 5 ≤ b) :
    Calls Tryd.prog 59 #[.pointer (some ⟨b, 0, none⟩)] w fun e w' => Kept (one b) w w' ∧
      (∀ r q, pBytes l = .ok (r, q) → e = .returned r.val ∧ AtL b s q w') ∧ (∀ n, pBytes l = .error n → e = .panicked [{ v := .iface 66 (.agg #[.int .i64 (n)]), recovered := false }]) := by
  have hbw := h.lt
  have HA : Hid (∀ o, AtL b s l (w.alloc o)) := fun o => h.alloc o
  have HE : Hid (∀ o, Env (w.alloc o)) := fun o => he.below ((Below.refl _ w).alloc (Nat.le_refl _) o)
  have HK : Hid (∀ o w', Kept (one b) (w.alloc o) w' → Kept (one b) w w') := fun o w' hk => ((Kept.refl _ w).alloc o).trans hk
  cases hp : pNumber l with
  | error x =>
    have HP : Hid (pBytes l = .error x) := by simp only [Hid, pBytes, hp]
    go_enter Tryd.func59, Tryd.ntmps59
    go_wp2_with (go_at_call 57; refine (number_err b s l x _ (HA.out _) hs (HE.out _) hb5 hp).mono ?_; rintro e w1 ⟨rfl, hk1⟩)
    exact ⟨rfl, HK.out _ _ hk1, fun v q hx => by rw [HP.out] at hx; simp at hx, fun n hx => by rw [HP.out] at hx; simp at hx; subst hx; rfl⟩
  | ok y =>
    obtain ⟨n, q⟩ := y
    obtain ⟨hn1, hn2, hq1, hq2⟩ := pNumber_bounds hp
    have hcell : Hid (∀ o w', Kept (one b) (w.alloc o) w' → w'.heap[w.heap.size]? = some o ∧ w.heap.size < w'.heap.size) := fun o w' hk => by
      have h1 := hk.block w.heap.size (by simp) (fun e => by simp only [one] at e; omega)
      refine ⟨h1.trans (heap_alloc_new w o), ?_⟩
      have := hk.size
      simp at this
      omega
    by_cases h1 : n = -1
    · subst h1
      have HP : Hid (pBytes l = .ok (⟨5, [], 0⟩, q)) := by simp [Hid, pBytes, hp]
      go_enter Tryd.func59, Tryd.ntmps59
      go_wp2_with fail
      refine (number_ok b s l q (-1) _ (HA.out _) hs (HE.out _) hb5 hp).mono ?_
      rintro e w1 ⟨rfl, ha1, hk1⟩
      obtain ⟨hh1, hz1⟩ := hcell.out _ _ hk1
      obtain ⟨c0, c1, c2, c3, f0, f1, f2, f3⟩ := four_of hh1
      have HH := hide hh1
      clear hh1
      go_wp2_with fail
      have hh2 := put4_heap HH.out (.int .i64 5) (.string ⟨#[]⟩) (.int .i64 0) (.slice none 0 0)
      have hk2 := put4_kept (HK.out _ _ hk1) (.inl (Nat.le_refl w.heap.size)) (.int .i64 5) (.string ⟨#[]⟩) (.int .i64 0) (.slice none 0 0)
      have ha2 := ha1.kept (put4_kept (Kept.refl (one w.heap.size) w1) (.inr rfl) (.int .i64 5) (.string ⟨#[]⟩) (.int .i64 0) (.slice none 0 0)) (fun e => by simp only [one] at e; omega)
      clear c0 c1 c2 c3 f0 f1 f2 f3
      generalize (((w1.setCell ⟨w.heap.size, 0, none⟩ (.int .i64 5)).setCell ⟨w.heap.size, 1, none⟩ (.string ⟨#[]⟩)).setCell ⟨w.heap.size, 2, none⟩ (.int .i64 0)).setCell ⟨w.heap.size, 3, none⟩ (.slice none 0 0) = w2 at *
      obtain ⟨c0, c1, c2, c3, f0, f1, f2, f3⟩ := four_of hh2
      refine bodyPost_ret (v := One.val ⟨5, [], 0⟩) (by simp [One.val, results, Tryd.results59, go_sem, c0, c1, c2, c3]) rfl ⟨hk2, fun r q' hx => ?_, fun n hx => by rw [HP.out] at hx; simp at hx⟩
      rw [HP.out] at hx
      simp at hx
      obtain ⟨rfl, rfl⟩ := hx
      exact ⟨rfl, ha2⟩
    · have h1b : (n == -1) = false := by rw [beq_eq_false_iff_ne]; exact h1
      by_cases h2 : n < 0
      · have HP : Hid (pBytes l = .error 1) := by simp only [Hid, pBytes, hp]; rw [if_neg h1, if_pos h2]
        clear h1
        go_enter Tryd.func59, Tryd.ntmps59
        go_wp2_with fail
        refine (number_ok b s l q n _ (HA.out _) hs (HE.out _) hb5 hp).mono ?_
        rintro e w1 ⟨rfl, ha1, hk1⟩
        go_wp2_with (go_at_call 43; refine (giveUp_any _ _).mono ?_; rintro e w' ⟨rfl, rfl⟩)
        exact ⟨rfl, HK.out _ _ hk1, fun v q hx => by rw [HP.out] at hx; simp at hx, fun n hx => by rw [HP.out] at hx; simp at hx; subst hx; rfl⟩
      · obtain ⟨m, rfl⟩ := Int.eq_ofNat_of_zero_le (show 0 ≤ n by omega)
        by_cases h3 : q.length < m
        · have HP : Hid (pBytes l = .error 8) := by simp only [Hid, pBytes, hp]; rw [if_neg h1, if_neg h2, Int.toNat_natCast, if_pos h3]
          clear h1
          go_enter Tryd.func59, Tryd.ntmps59
          go_wp2_with fail
          refine (number_ok b s l q m _ (HA.out _) hs (HE.out _) hb5 hp).mono ?_
          rintro e w1 ⟨rfl, ha1, hk1⟩
          go_wp2_with fail
          refine (take_err b s q m w1 ha1 h3 (by omega)).mono ?_
          rintro e w2 ⟨rfl, hk2⟩
          exact ⟨rfl, (HK.out _ _ hk1).trans hk2, fun v q hx => by rw [HP.out] at hx; simp at hx, fun n hx => by rw [HP.out] at hx; simp at hx; subst hx; rfl⟩
        · cases hm : pMust [13, 10] (q.drop m) with
          | error x =>
            refine (bytes_end b s l w h hs he hb5 q m x hp (by omega) hm).mono ?_
            rintro e w' ⟨rfl, hk⟩
            have HP : Hid (pBytes l = .error x) := by simp only [Hid, pBytes, hp]; rw [if_neg h1, if_neg h2, Int.toNat_natCast, if_neg h3, hm]
            exact ⟨hk, fun v q hx => by rw [HP.out] at hx; simp at hx, fun n hx => by rw [HP.out] at hx; simp at hx; subst hx; rfl⟩
          | ok q2 =>
            refine (bytes_all b s l w h hs he hb5 q m q2 hp (by omega) hm).mono ?_
            rintro e w' ⟨rfl, ha, hk⟩
            have HP : Hid (pBytes l = .ok (⟨4, q.take m, 0⟩, q2)) := by simp only [Hid, pBytes, hp]; rw [if_neg h1, if_neg h2, Int.toNat_natCast, if_neg h3, hm]
            refine ⟨hk, fun r q' hx => ?_, fun n hx => by rw [HP.out] at hx; simp at hx⟩
            rw [HP.out] at hx
            simp at hx
            obtain ⟨rfl, rfl⟩ := hx
            exact ⟨rfl, ha⟩
end Go.Proofs.YtolpmaapdkhigaaDoor
