/- WALK of Decode. -/
import Derived.Test.YtolpmaapdkhigaaDoorDec7
import Derived.Test.YtolpmaapdkhigaaDoorRunDecode
import Derived.Handy
namespace Go.Proofs.YtolpmaapdkhigaaDoor
open Go.RowKit

set_option maxRecDepth 100000 in
set_option maxHeartbeats 1000000 in
theorem overD_any (s : ByteArray) (w : World) :
    Calls Tryd.prog 26 #[.string s] w fun e w' => e = .returned (.pointer (some ⟨w.heap.size, 0, none⟩)) ∧ w' = w.alloc (.cells #[.string s, .int .i64 0] 72) := by
  go_enter Tryd.func26, Tryd.ntmps26
  go_wp2
  go_ret
  exact ⟨rfl, rfl⟩

def zCells : Array Value := #[.int .i64 0, .string ⟨#[]⟩, .int .i64 0, .slice none 0 0]

/-- what lies in the variable behind it -/
def GotAt (base pr : Nat) (w : World) (g : Got) : Prop :=
  ∃ y0 y1 y2 y3, w.heap[pr]? = some (.cells #[y0, y1, y2, y3] 24) ∧ GotVal base w (.agg #[y0, y1, y2, y3]) g

theorem GotVal.kept {base b : Nat} {w w' : World} {v : Value} {g : Got} (h : GotVal base w v g) {S : Nat → Prop} (hk : Kept S w w') (hS : ∀ k, S k → k < base) (hb : b ≤ base) : GotVal b w' v g := by
  cases g with
  | one r => exact h
  | many rs =>
    obtain ⟨V, h1, h2⟩ := h
    exact ⟨V, h1, ownsRow_low (hk.owns h2 (fun j hj hs => by have := (h2.lt j hj).1; have := hS j hs; omega)) hb⟩

set_option maxRecDepth 100000 in
set_option maxHeartbeats 1000000 in
theorem decode1_any (ps pr : Nat) (s : ByteArray) (w : World) (hps : w.cell? ⟨ps, 0, none⟩ = some (.string s)) (hpr : w.heap[pr]? = some (.cells zCells 24)) (hs : s.size ≤ 281474976710656) (he : Env w) :
    Calls Tryd.prog 24 #[.pointer (some ⟨ps, 0, none⟩), .pointer (some ⟨pr, 0, none⟩)] w fun e w' => Kept (one pr) w w' ∧
      (∀ g, pAll s.data.toList = .ok g → e = .returned (.tuple #[]) ∧ GotAt w.heap.size pr w' g) ∧ (∀ n, pAll s.data.toList = .error n → e = .panicked [{ v := .iface 66 (.agg #[.int .i64 (n)]), recovered := false }]) := by
  have hlt := he.lt
  have hprl : pr < w.heap.size := by
    rcases Nat.lt_or_ge pr w.heap.size with h | h
    · exact h
    · rw [Array.getElem?_eq_none (by simpa using h)] at hpr; simp at hpr
  have hmx : s.size ≤ maxLen := by unfold maxLen; omega
  have hA : AtL w.heap.size s s.data.toList (w.alloc (.cells #[.string s, .int .i64 0] 72)) := by
    refine ⟨⟨by simp [go_sem], ?_, by simp [go_sem], by omega, hmx⟩, List.suffix_refl _⟩
    rw [size_list, Nat.sub_self]
    simp [go_sem]
  have hEA : Env (w.alloc (.cells #[.string s, .int .i64 0] 72)) := he.below ((Below.refl _ w).alloc (Nat.le_refl _) _)
  have HR := hide (all_any w.heap.size s s.data.toList _ hA hs hEA hlt)
  have HK : Hid (∀ w', Kept (one w.heap.size) (w.alloc (.cells #[.string s, .int .i64 0] 72)) w' → Kept (fun _ => False) w w') := fun w' hk =>
    (((Kept.refl (one w.heap.size) w).alloc _).trans hk).mono (fun k hk e => by simp only [one] at e; omega)
  have HB := hide hpr
  have HE := hide he
  clear hA hEA he hpr
  go_enter Tryd.func24, Tryd.ntmps24
  go_wp2_with (go_at_call 26; refine (overD_any _ _).mono ?_; rintro e w' ⟨rfl, rfl⟩)
  refine HR.out.mono ?_
  rintro e w1 ⟨hk1, hok, herr⟩
  have hk := HK.out w1 hk1
  have HB1 := hide ((hk.block pr hprl (fun e => e)).trans HB.out)
  cases hp : pAll s.data.toList with
  | error x =>
    have := herr x hp
    subst this
    exact ⟨rfl, hk.mono (fun _ _ e => e.elim), fun g hx => by rw [hp] at hx; simp at hx, fun n hx => by rw [hp] at hx; simp at hx; subst hx; rfl⟩
  | ok g =>
    obtain ⟨v, rfl, hv⟩ := hok g hp
    have hv1 : GotVal w.heap.size w1 v g := hv.kept (S := fun _ => False) (Kept.refl _ _) (fun _ e => e.elim) (by simp)
    have hv2 : ∃ y0 y1 y2 y3, v = .agg #[y0, y1, y2, y3] ∧ (∃ k t n a l c, y0 = .int .i64 k ∧ y1 = .string t ∧ y2 = .int .i64 n ∧ y3 = .slice a l c) := by
      cases g with
      | one r => exact ⟨_, _, _, _, hv, _, _, _, _, _, _, rfl, rfl, rfl, rfl⟩
      | many rs =>
        obtain ⟨V, h1, h2⟩ := hv
        obtain ⟨a, c, rfl⟩ := rowSlice h2
        exact ⟨_, _, _, _, h1, _, _, _, _, _, _, rfl, rfl, rfl, rfl⟩
    obtain ⟨_, _, _, _, rfl, k, t, n, a, l, c, rfl, rfl, rfl, rfl⟩ := hv2
    have hX := HB1.out
    unfold zCells at hX
    obtain ⟨c0, c1, c2, c3, f0, f1, f2, f3⟩ := four_of hX
    have HX := hide hX
    clear hX hok herr hv
    go_wp2_with fail
    have hh2 := put4_heap HX.out (.int .i64 k) (.string t) (.int .i64 n) (.slice a l c)
    have hk2 := put4_kept (Kept.refl (one pr) w1) (.inr rfl) (.int .i64 k) (.string t) (.int .i64 n) (.slice a l c)
    clear c0 c1 c2 c3 f0 f1 f2 f3
    generalize (((w1.setCell ⟨pr, 0, none⟩ (.int .i64 k)).setCell ⟨pr, 1, none⟩ (.string t)).setCell ⟨pr, 2, none⟩ (.int .i64 n)).setCell ⟨pr, 3, none⟩ (.slice a l c) = w2 at *
    have fin : Kept (one pr) w w2 ∧ (∀ g', pAll s.data.toList = .ok g' → Ending.returned (.tuple #[]) = .returned (.tuple #[]) ∧ GotAt w.heap.size pr w2 g') ∧ (∀ n, pAll s.data.toList = .error n → Ending.returned (.tuple #[]) = .panicked [{ v := .iface 66 (.agg #[.int .i64 (n)]), recovered := false }]) := by
      refine ⟨(hk.mono (fun _ _ e => e.elim)).trans hk2, fun g' hx => ?_, fun n hx => by rw [hp] at hx; simp at hx⟩
      rw [hp] at hx
      simp at hx
      subst hx
      exact ⟨rfl, _, _, _, _, hh2, hv1.kept hk2 (fun k e => by simp only [one] at e; omega) (Nat.le_refl _)⟩
    go_end0
    exact fin

theorem runDecode_got (ps pr : Nat) (s : ByteArray) (w : World) (hps : w.cell? ⟨ps, 0, none⟩ = some (.string s)) (hpr : w.heap[pr]? = some (.cells zCells 24)) (hs : s.size ≤ 281474976710656) (he : Env w) (g : Got) (hp : pAll s.data.toList = .ok g) :
    Calls Tryd.prog 23 #[.func (.func 24) #[] #[.pointer (some ⟨ps, 0, none⟩), .pointer (some ⟨pr, 0, none⟩)]] w fun e w' => e = .returned (.int .i64 0) ∧ Kept (one pr) w w' ∧ GotAt w.heap.size pr w' g := by
  have hprl : pr < w.heap.size := by
    rcases Nat.lt_or_ge pr w.heap.size with h | h
    · exact h
    · rw [Array.getElem?_eq_none (by simpa using h)] at hpr; simp at hpr
  have ka : Kept (fun _ => False) w (w.alloc (.cells #[.int .i64 0] 25)) := (Kept.refl _ w).alloc _
  have H := decode1_any ps pr s (w.alloc (.cells #[.int .i64 0] 25)) (ka.cell' hps (fun e => e)) ((ka.block pr hprl (fun e => e)).trans hpr) hs (he.below ((Below.refl _ w).alloc (Nat.le_refl _) _))
  refine (runDecode_ok _ (one pr) (fun w1 => GotAt (w.heap.size + 1) pr w1 g) w (by simp only [one]; omega) (H.mono ?_)).mono ?_
  · rintro e w1 ⟨h1, h2, h3⟩
    obtain ⟨h4, h5⟩ := h2 g hp
    exact ⟨h4, h1, by simpa using h5⟩
  · rintro e w' ⟨rfl, w1, ⟨y0, y1, y2, y3, c1, c2⟩, k1, k2⟩
    have hl1 := k1.size
    refine ⟨rfl, ?_, y0, y1, y2, y3, (k2.block pr (by omega) (fun e => by simp only [one] at e; omega)).trans c1, c2.kept k2 (fun k e => by simp only [one] at e; omega) (by omega)⟩
    have k3 : Kept (fun k => k = pr ∨ k = w.heap.size) w w' := (k1.mono (fun k _ e => .inl e)).trans (k2.mono (fun k _ e => .inr e))
    exact k3.mono (fun k hk e => by rcases e with e | e; exact e; omega)
theorem runDecode_not (ps pr : Nat) (s : ByteArray) (w : World) (hps : w.cell? ⟨ps, 0, none⟩ = some (.string s)) (hpr : w.heap[pr]? = some (.cells zCells 24)) (hs : s.size ≤ 281474976710656) (he : Env w) (n : Nat) (hp : pAll s.data.toList = .error n) :
    Calls Tryd.prog 23 #[.func (.func 24) #[] #[.pointer (some ⟨ps, 0, none⟩), .pointer (some ⟨pr, 0, none⟩)]] w fun e w' => e = .returned (.int .i64 n) ∧ Kept (one pr) w w' := by
  have hprl : pr < w.heap.size := by
    rcases Nat.lt_or_ge pr w.heap.size with h | h
    · exact h
    · rw [Array.getElem?_eq_none (by simpa using h)] at hpr; simp at hpr
  have ka : Kept (fun _ => False) w (w.alloc (.cells #[.int .i64 0] 25)) := (Kept.refl _ w).alloc _
  have H := decode1_any ps pr s (w.alloc (.cells #[.int .i64 0] 25)) (ka.cell' hps (fun e => e)) ((ka.block pr hprl (fun e => e)).trans hpr) hs (he.below ((Below.refl _ w).alloc (Nat.le_refl _) _))
  refine (runDecode_err n _ (one pr) (fun _ => True) w (by simp only [one]; omega) (H.mono ?_)).mono ?_
  · rintro e w1 ⟨h1, h2, h3⟩
    exact ⟨h3 n hp, h1, trivial⟩
  · rintro e w' ⟨rfl, w1, _, k1, k2⟩
    refine ⟨rfl, ?_⟩
    have k3 : Kept (fun k => k = pr ∨ k = w.heap.size) w w' := (k1.mono (fun k _ e => .inl e)).trans (k2.mono (fun k _ e => .inr e))
    exact k3.mono (fun k hk e => by rcases e with e | e; exact e; omega)

def DecPost (s : ByteArray) (w : World) (e : Ending) (w' : World) : Prop :=
  Below w.heap.size w w' ∧ (∀ n, pAll s.data.toList = .error n → e = .returned (.tuple #[.agg zCells, .int .i64 1])) ∧
    (∀ g, pAll s.data.toList = .ok g → (gotCheck g = 0 → ∃ v, e = .returned (.tuple #[v, .int .i64 0]) ∧ GotVal w.heap.size w' v g) ∧
      (gotCheck g ≠ 0 → e = .returned (.tuple #[.agg zCells, .int .i64 (gotCheck g)])))

/-- the world in which the walk begins -/
theorem begin3 (s : ByteArray) (w : World) (he : Env w) (T : Nat) (W : World) (hW : W = ((w.alloc (.cells #[.string s] T)).alloc (.cells zCells 24)).alloc (.cells zCells 24)) :
    W.cell? ⟨w.heap.size, 0, none⟩ = some (.string s) ∧ W.heap[w.heap.size + 1 + 1]? = some (.cells zCells 24) ∧ W.heap[w.heap.size + 1]? = some (.cells zCells 24) ∧ Env W ∧ Below w.heap.size w W ∧ W.heap.size = w.heap.size + 3 := by
  subst hW
  have hB : Below w.heap.size w (((w.alloc (.cells #[.string s] T)).alloc (.cells zCells 24)).alloc (.cells zCells 24)) :=
    (((Below.refl _ w).alloc (Nat.le_refl _) _).alloc (by simp) _).alloc (by simp; omega) _
  have e1 : (w.alloc (.cells #[.string s] T)).heap.size = w.heap.size + 1 := by simp
  have h1 := heap_alloc_new (w.alloc (.cells #[.string s] T)) (.cells zCells 24)
  rw [e1] at h1
  have e2 : ((w.alloc (.cells #[.string s] T)).alloc (.cells zCells 24)).heap.size = w.heap.size + 1 + 1 := by simp
  have h2 := heap_alloc_new ((w.alloc (.cells #[.string s] T)).alloc (.cells zCells 24)) (.cells zCells 24)
  rw [e2] at h2
  refine ⟨?_, h2, (Below.heap_alloc _ _ _ (by simp)).trans h1, he.below hB, hB, by simp⟩
  simp [go_sem]

set_option maxRecDepth 100000 in
set_option maxHeartbeats 1000000 in
theorem decode_not (s : ByteArray) (w : World) (hs : s.size ≤ 281474976710656) (he : Env w) (n : Nat) (hp : pAll s.data.toList = .error n) :
    Calls Tryd.prog 8 #[.string s] w (DecPost s w) := by
  have hmf : ∀ (fn : Fn) (first cap : Array Value) (w : World), (Instr.makeFunc fn first cap).run Tryd.prog w = .ok (.func fn first cap) w := fun _ _ _ _ => rfl
  have hn := pAll_code hp
  have hn0 : ((n : Int) == 0) = false := by rw [beq_eq_false_iff_ne]; omega
  go_enter Tryd.func8, Tryd.ntmps8
  go_wp2_with fail
  generalize hW : World.alloc _ _ = W
  obtain ⟨b1, b2, b3, b4, b5, b6⟩ := begin3 s w he _ W hW.symm
  clear hW
  refine (runDecode_not w.heap.size (w.heap.size + 1 + 1) s W b1 b2 hs b4 n hp).mono ?_
  rintro e w1 ⟨rfl, hk1⟩
  have hB1 := (hk1.block (w.heap.size + 1) (by omega) (fun e => by simp only [one] at e; omega)).trans b3
  have HB1 := hide hB1
  unfold zCells at hB1
  obtain ⟨c0, c1, c2, c3, f0, f1, f2, f3⟩ := four_of hB1
  have hb1 : Below w.heap.size w w1 := b5.trans (hk1.below (by omega) (fun k e => by simp only [one] at e; omega))
  clear hB1 b1 b2 b3 b4 b5 b6 hk1 hmf
  go_wp2_with fail
  have hh2 := put4_heap HB1.out (.int .i64 0) (.string ⟨#[]⟩) (.int .i64 0) (.slice none 0 0)
  have hk2 := put4_kept (Kept.refl (one (w.heap.size + 1)) w1) (.inr rfl) (.int .i64 0) (.string ⟨#[]⟩) (.int .i64 0) (.slice none 0 0)
  clear c0 c1 c2 c3 f0 f1 f2 f3
  generalize (((w1.setCell ⟨w.heap.size + 1, 0, none⟩ (.int .i64 0)).setCell ⟨w.heap.size + 1, 1, none⟩ (.string ⟨#[]⟩)).setCell ⟨w.heap.size + 1, 2, none⟩ (.int .i64 0)).setCell ⟨w.heap.size + 1, 3, none⟩ (.slice none 0 0) = w2 at *
  obtain ⟨c0, c1, c2, c3, f0, f1, f2, f3⟩ := four_of hh2
  have hb2 : Below w.heap.size w w2 := hb1.trans (hk2.below hb1.size (fun k e => by simp only [one] at e; omega))
  refine bodyPost_ret (v := .tuple #[.agg zCells, .int .i64 1]) (by simp [zCells, results, Tryd.results8, go_sem, c0, c1, c2, c3]) rfl ⟨hb2, fun _ _ => rfl, fun g hx => by rw [hp] at hx; simp at hx⟩

set_option maxRecDepth 100000 in
set_option maxHeartbeats 1000000 in
theorem decode_got (s : ByteArray) (w : World) (hs : s.size ≤ 281474976710656) (he : Env w) (g : Got) (hp : pAll s.data.toList = .ok g) :
    Calls Tryd.prog 8 #[.string s] w (DecPost s w) := by
  have hmf : ∀ (fn : Fn) (first cap : Array Value) (w : World), (Instr.makeFunc fn first cap).run Tryd.prog w = .ok (.func fn first cap) w := fun _ _ _ _ => rfl
  have hsz : ∀ r ∈ g.all, r.t.length ≤ maxLen := fun r hr => by have := pAll_size hp r hr; rw [size_list] at this; unfold maxLen; omega
  go_enter Tryd.func8, Tryd.ntmps8
  go_wp2_with fail
  generalize hW : World.alloc _ _ = W
  obtain ⟨b1, b2, b3, b4, b5, b6⟩ := begin3 s w he _ W hW.symm
  clear hW
  refine (runDecode_got w.heap.size (w.heap.size + 1 + 1) s W b1 b2 hs b4 g hp).mono ?_
  rintro e w1 ⟨rfl, hk1, y0, y1, y2, y3, hB2, hv⟩
  have hv2 : ∃ k t n a l c, y0 = .int .i64 k ∧ y1 = .string t ∧ y2 = .int .i64 n ∧ y3 = .slice a l c ∧
      (∀ w2, Below w1.heap.size w1 w2 → Calls Tryd.prog 13 #[.agg #[y0, y1, y2, y3]] w2 fun e w' => e = .returned (.int .i64 (gotCheck g)) ∧ Below w2.heap.size w2 w') := by
    cases g with
    | one r =>
      simp only [GotVal, One.val] at hv
      simp at hv
      obtain ⟨rfl, rfl, rfl, rfl⟩ := hv
      refine ⟨_, _, _, _, _, _, rfl, rfl, rfl, rfl, fun w2 _ => ?_⟩
      exact check_any r.k ⟨r.t.toArray⟩ r.n none 0 [] w2 (by rw [size_mk]; exact hsz r (by simp [Got.all])) (.inl rfl)
    | many rs =>
      obtain ⟨V, h1, h2⟩ := hv
      obtain ⟨a, c, rfl⟩ := rowSlice h2
      simp at h1
      obtain ⟨rfl, rfl, rfl, rfl⟩ := h1
      refine ⟨_, _, _, _, _, _, rfl, rfl, rfl, rfl, fun w2 hb2 => ?_⟩
      have h3 := (Kept.of_below hb2 (fun _ => False)).owns h2 (fun _ _ e => e)
      have h4 := check_any 6 ⟨#[]⟩ 0 a c (rs.map One.rep) w2 (by decide) (listAt_of_ones h3 hsz)
      rw [List.length_map] at h4
      exact h4
  obtain ⟨k, t, n, a, l, c, rfl, rfl, rfl, rfl, hchk⟩ := hv2
  have hB1 := (hk1.block (w.heap.size + 1) (by omega) (fun e => by simp only [one] at e; omega)).trans b3
  have HB1 := hide hB1
  have HB2 := hide hB2
  have hszb := hk1.size
  unfold zCells at hB1
  obtain ⟨c0, c1, c2, c3, f0, f1, f2, f3⟩ := four_of hB1
  obtain ⟨d0, d1, d2, d3, e0, e1, e2, e3⟩ := four_of hB2
  have hb1 : Below w.heap.size w w1 := b5.trans (hk1.below (by omega) (fun k e => by simp only [one] at e; omega))
  have HC := hide (hchk w1 (Below.refl _ _))
  clear hB1 hB2 b1 b2 b3 b4 b5 hk1 hmf hchk
  go_wp2_with fail
  refine HC.out.mono ?_
  rintro e w2 ⟨rfl, hb2⟩
  have kb2 := Kept.of_below hb2 (fun _ => False)
  have HB12 := hide ((kb2.block (w.heap.size + 1) (by omega) (fun e => e)).trans HB1.out)
  have HB22 := hide ((kb2.block (w.heap.size + 1 + 1) (by omega) (fun e => e)).trans HB2.out)
  clear c0 c1 c2 c3 f0 f1 f2 f3 d0 d1 d2 d3 e0 e1 e2 e3
  have hX := HB12.out
  unfold zCells at hX
  obtain ⟨c0, c1, c2, c3, f0, f1, f2, f3⟩ := four_of hX
  obtain ⟨d0, d1, d2, d3, e0, e1, e2, e3⟩ := four_of HB22.out
  clear hX
  have hb12 : Below w.heap.size w w2 := hb1.trans (kb2.below hb1.size (fun _ e => e.elim))
  have hsz2 := hb2.size
  by_cases hg : gotCheck g = 0
  · have hg0 := hide hg
    rw [hg]
    go_wp2_with fail
    have hh2 := put4_heap HB12.out (.int .i64 k) (.string t) (.int .i64 n) (.slice a l c)
    have hk3 := put4_kept (Kept.refl (one (w.heap.size + 1)) w2) (.inr rfl) (.int .i64 k) (.string t) (.int .i64 n) (.slice a l c)
    clear c0 c1 c2 c3 f0 f1 f2 f3 d0 d1 d2 d3 e0 e1 e2 e3
    generalize (((w2.setCell ⟨w.heap.size + 1, 0, none⟩ (.int .i64 k)).setCell ⟨w.heap.size + 1, 1, none⟩ (.string t)).setCell ⟨w.heap.size + 1, 2, none⟩ (.int .i64 n)).setCell ⟨w.heap.size + 1, 3, none⟩ (.slice a l c) = w3 at *
    obtain ⟨c0, c1, c2, c3, f0, f1, f2, f3⟩ := four_of hh2
    have hb3 : Below w.heap.size w w3 := hb12.trans (hk3.below hb12.size (fun k e => by simp only [one] at e; omega))
    have hv3 := (hv.kept kb2 (fun _ e => e.elim) (Nat.le_refl _)).kept (b := w.heap.size) hk3 (fun k e => by simp only [one] at e; omega) (by omega)
    refine bodyPost_ret (v := .tuple #[.agg #[.int .i64 k, .string t, .int .i64 n, .slice a l c], .int .i64 0]) (by simp [results, Tryd.results8, go_sem, c0, c1, c2, c3]) rfl ⟨hb3, fun n hx => by rw [hp] at hx; simp at hx, fun g' hx => ?_⟩
    rw [hp] at hx
    simp at hx
    subst hx
    exact ⟨fun _ => ⟨_, rfl, hv3⟩, fun hx => absurd hg0.out hx⟩
  · have hg1 : (gotCheck g == 0) = false := by rw [beq_eq_false_iff_ne]; exact hg
    have hg0 := hide hg
    clear hg
    obtain ⟨z, hz⟩ : ∃ z, gotCheck g = z := ⟨_, rfl⟩
    have hz' := hide hz
    rw [hz] at hg1 ⊢
    clear hz
    go_wp2_with fail
    have hh2 := put4_heap HB12.out (.int .i64 0) (.string ⟨#[]⟩) (.int .i64 0) (.slice none 0 0)
    have hk3 := put4_kept (Kept.refl (one (w.heap.size + 1)) w2) (.inr rfl) (.int .i64 0) (.string ⟨#[]⟩) (.int .i64 0) (.slice none 0 0)
    clear c0 c1 c2 c3 f0 f1 f2 f3 d0 d1 d2 d3 e0 e1 e2 e3
    generalize (((w2.setCell ⟨w.heap.size + 1, 0, none⟩ (.int .i64 0)).setCell ⟨w.heap.size + 1, 1, none⟩ (.string ⟨#[]⟩)).setCell ⟨w.heap.size + 1, 2, none⟩ (.int .i64 0)).setCell ⟨w.heap.size + 1, 3, none⟩ (.slice none 0 0) = w3 at *
    obtain ⟨c0, c1, c2, c3, f0, f1, f2, f3⟩ := four_of hh2
    have hb3 : Below w.heap.size w w3 := hb12.trans (hk3.below hb12.size (fun k e => by simp only [one] at e; omega))
    refine bodyPost_ret (v := .tuple #[.agg zCells, .int .i64 z]) (by simp [zCells, results, Tryd.results8, go_sem, c0, c1, c2, c3]) rfl ⟨hb3, fun n hx => by rw [hp] at hx; simp at hx, fun g' hx => ?_⟩
    rw [hp] at hx
    simp at hx
    subst hx
    exact ⟨fun hx => absurd hx hg0.out, fun _ => by rw [hz'.out]⟩
theorem decode_any (s : ByteArray) (w : World) (hs : s.size ≤ 281474976710656) (he : Env w) : Calls Tryd.prog 8 #[.string s] w (DecPost s w) := by
  cases hp : pAll s.data.toList with
  | error n => exact decode_not s w hs he n hp
  | ok g => exact decode_got s w hs he g hp
end Go.Proofs.YtolpmaapdkhigaaDoor
