/- WALKS of Meet, Join, Less of sets. -/
import Derived.Test.YtmpcnkaodjjkbacSet7
import Derived.Handy
namespace Go.Proofs.Ytmpcnkaodjjkbac
open Go.RowKit

set_option maxRecDepth 100000 in
theorem those_none (a : Option Addr) (c : Nat) (fv : Value) (w : World) : Calls Try.prog 57 #[.slice a 0 c, fv] w fun e w' => ∃ a' cap, e = .returned (.tuple #[.slice a' ([] : List ByteArray).length cap, .int .i64 1]) ∧ (∀ W', (∀ g o u, w.heap.size ≤ g → w'.cell? ⟨g, o, none⟩ = some u → W'.cell? ⟨g, o, none⟩ = some u) → TextsAt W' a' []) ∧ Below w.heap.size w w' := by
  go_enter Try.func57, Try.ntmps57
  go_wp2_with fail
  refine bodyPost_ret (v := .tuple #[.slice none 0 0, .int .i64 1]) (by simp [results, Try.results57, go_sem]) rfl ⟨none, 0, rfl, fun W _ => .inl rfl, Below.refl _ _⟩
/-- what meet asks for -/
def askM (xs : List Itm) : ByteArray → Nat → Bool := fun _ n => decide (n = xs.length)
set_option maxRecDepth 100000 in
set_option maxHeartbeats 1000000 in
theorem askM_any (b : Nat) (a : Option Addr) (c : Nat) (xs : List Itm) (m : ByteArray) (n : Nat) (W : World) (hx : ItemsAt W a xs) (hne : xs ≠ []) (hxl : xs.length ≤ 1500000) (hc : W.cell? ⟨b, 0, none⟩ = some (.slice a xs.length c)) : Calls Try.prog 58 #[.string m, .int .i64 n, .pointer (some ⟨b, 0, none⟩)] W fun e w' => e = .returned (.bool (askM xs m n)) ∧ Below W.heap.size W w' := by
  have _u1 := hx
  have _u2 := hne
  have _u3 := hxl
  clear _u1 _u2 _u3
  have hd : (((n : Nat) : Int) == ((xs.length : Nat) : Int)) = decide (n = xs.length) := by rw [Bool.eq_iff_iff]; simp; omega
  clear hx
  go_enter Try.func58, Try.ntmps58
  go_wp2_with fail
  go_ret
  exact ⟨by first | rfl | rw [askM, ← hd] | simp [askM], Below.refl _ _⟩

set_option maxRecDepth 100000 in
set_option maxHeartbeats 1000000 in
theorem meet_any (a : Option Addr) (c : Nat) (xs : List Itm) (w : World) (hx : ItemsAt w a xs) (hxl : xs.length ≤ 1500000) (hsum : (xs.map Itm.l).flatten.length ≤ 1500000) (SE : Int) (TL : List ByteArray) (HS : Hid (SE = setsF xs ∧ TL = if setsF xs = 0 then thoseL (askM xs) (xs.map Itm.l) else [])) :
    Calls Try.prog 27 #[.slice a xs.length c] w fun e w' => ∃ a' cap, e = .returned (.tuple #[.slice a' TL.length cap, .int .i64 SE]) ∧ (∀ W, (∀ g o u, w.heap.size ≤ g → w'.cell? ⟨g, o, none⟩ = some u → W.cell? ⟨g, o, none⟩ = some u) → TextsAt W a' TL) ∧ Below w.heap.size w w' := by
  have HB : Hid (∀ W, ∀ b, W.cell? ⟨b, 0, none⟩ = some (.slice a xs.length c) → Below w.heap.size w W → Calls Try.prog 57 #[.slice a xs.length c, .func (.func 58) #[] #[.pointer (some ⟨b, 0, none⟩)]] W fun e w' => ∃ a' cap, e = .returned (.tuple #[.slice a' TL.length cap, .int .i64 SE]) ∧ (∀ W', (∀ g o u, W.heap.size ≤ g → w'.cell? ⟨g, o, none⟩ = some u → W'.cell? ⟨g, o, none⟩ = some u) → TextsAt W' a' TL) ∧ Below W.heap.size W w') := fun W b hcb hW => by
    by_cases hne : xs = []
    · subst hne
      obtain ⟨e1, e2⟩ := HS.out
      have h1 : SE = 1 := e1
      have h2 : TL = [] := e2
      subst h1 h2
      exact those_none a c _ W
    · have e : setsF xs = setsE xs := if_neg hne
      refine thoseM_some b (askM xs) a c xs W (hx.below hW) hne hxl hsum SE TL (by rw [← e]; exact HS.out) (fun W2 m n hW2 => ?_)
      exact askM_any b a c xs m n W2 (hx.below (hW.trans (hW2.mono hW.size))) hne hxl ((hW2.cell (p := ⟨b, 0, none⟩) (World.block_lt_of_cell? _ _ hcb)).trans hcb)
  clear hx HS
  go_enter Try.func27, Try.ntmps27
  go_wp2_with fail
  refine (HB.out _ w.heap.size (by simp [go_sem]) ((Below.refl _ w).alloc (Nat.le_refl _) _)).mono ?_
  rintro e w1 ⟨a', cap, rfl, hT, hb⟩
  have HT := hide hT
  clear hT HB
  go_wp2_with fail
  refine bodyPost_ret (v := .tuple #[.slice a' TL.length cap, .int .i64 SE]) (by simp [results, Try.results27, go_sem]) rfl ⟨a', cap, rfl, fun W hW => HT.out W (fun g o u hg hu => hW g o u (by simp at hg; omega) hu), ((Below.refl _ w).alloc (Nat.le_refl _) _).trans (hb.mono (by simp))⟩
/-- what joinS asks for -/
def askJ (xs : List Itm) : ByteArray → Nat → Bool := fun _ _ => have _u := xs; true
set_option maxRecDepth 100000 in
set_option maxHeartbeats 1000000 in
theorem askJ_any (a : Option Addr) (c : Nat) (xs : List Itm) (m : ByteArray) (n : Nat) (W : World) (hx : ItemsAt W a xs) (hne : xs ≠ []) (hxl : xs.length ≤ 1500000) : Calls Try.prog 59 #[.string m, .int .i64 n] W fun e w' => e = .returned (.bool (askJ xs m n)) ∧ Below W.heap.size W w' := by
  have _u1 := hx
  have _u2 := hne
  have _u3 := hxl
  have _u4 := c
  clear _u1 _u2 _u3 _u4 hx
  go_enter Try.func59, Try.ntmps59
  go_wp2_with fail
  go_ret
  exact ⟨rfl, Below.refl _ _⟩

set_option maxRecDepth 100000 in
set_option maxHeartbeats 1000000 in
theorem joinS_any (a : Option Addr) (c : Nat) (xs : List Itm) (w : World) (hx : ItemsAt w a xs) (hxl : xs.length ≤ 1500000) (hsum : (xs.map Itm.l).flatten.length ≤ 1500000) (SE : Int) (TL : List ByteArray) (HS : Hid (SE = setsF xs ∧ TL = if setsF xs = 0 then thoseL (askJ xs) (xs.map Itm.l) else [])) :
    Calls Try.prog 28 #[.slice a xs.length c] w fun e w' => ∃ a' cap, e = .returned (.tuple #[.slice a' TL.length cap, .int .i64 SE]) ∧ (∀ W, (∀ g o u, w.heap.size ≤ g → w'.cell? ⟨g, o, none⟩ = some u → W.cell? ⟨g, o, none⟩ = some u) → TextsAt W a' TL) ∧ Below w.heap.size w w' := by
  have HB : Hid (∀ W, Below w.heap.size w W → Calls Try.prog 57 #[.slice a xs.length c, .func (.func 59) #[] #[]] W fun e w' => ∃ a' cap, e = .returned (.tuple #[.slice a' TL.length cap, .int .i64 SE]) ∧ (∀ W', (∀ g o u, W.heap.size ≤ g → w'.cell? ⟨g, o, none⟩ = some u → W'.cell? ⟨g, o, none⟩ = some u) → TextsAt W' a' TL) ∧ Below W.heap.size W w') := fun W hW => by
    by_cases hne : xs = []
    · subst hne
      obtain ⟨e1, e2⟩ := HS.out
      have h1 : SE = 1 := e1
      have h2 : TL = [] := e2
      subst h1 h2
      exact those_none a c _ W
    · have e : setsF xs = setsE xs := if_neg hne
      refine thoseJ_some (askJ xs) a c xs W (hx.below hW) hne hxl hsum SE TL (by rw [← e]; exact HS.out) (fun W2 m n hW2 => ?_)
      exact askJ_any a c xs m n W2 (hx.below (hW.trans (hW2.mono hW.size))) hne hxl
  clear hx HS
  go_enter Try.func28, Try.ntmps28
  go_wp2_with fail
  refine (HB.out _ (Below.refl _ w)).mono ?_
  rintro e w1 ⟨a', cap, rfl, hT, hb⟩
  have HT := hide hT
  clear hT HB
  go_wp2_with fail
  refine bodyPost_ret (v := .tuple #[.slice a' TL.length cap, .int .i64 SE]) (by simp [results, Try.results28, go_sem]) rfl ⟨a', cap, rfl, fun W hW => HT.out W (fun g o u hg hu => hW g o u (hg) hu), hb⟩
/-- what less asks for -/
def askL1 (xs : List Itm) : ByteArray → Nat → Bool := fun m n => decide (n = 1) && hasT (xs.headD Itm.none).l m
set_option maxRecDepth 100000 in
set_option maxHeartbeats 1000000 in
theorem askL1_any (b : Nat) (a : Option Addr) (c : Nat) (xs : List Itm) (m : ByteArray) (n : Nat) (W : World) (hx : ItemsAt W a xs) (hne : xs ≠ []) (hxl : xs.length ≤ 1500000) (hc : W.cell? ⟨b, 0, none⟩ = some (.slice a xs.length c)) : Calls Try.prog 60 #[.string m, .int .i64 n, .pointer (some ⟨b, 0, none⟩)] W fun e w' => e = .returned (.bool (askL1 xs m n)) ∧ Below W.heap.size W w' := by
  obtain ⟨g, o, rfl, hcs⟩ := hx.resolve_left hne
  have hpos : 0 < xs.length := List.length_pos_iff.2 hne
  obtain ⟨a1, c1, a2, c2, a3, c3, ⟨-, -, d2, -, -⟩, hI⟩ := hcs 0 hpos
  rw [Nat.zero_mul, Nat.add_zero] at d2
  obtain ⟨hT1, hTn⟩ : TextsAt W a1 xs[0].l ∧ xs[0].l.length ≤ 281474976710656 := by
    obtain ⟨⟨b1, q1, b2, q2, b3, q3, e, t1, -, -⟩, -, -, -, -, hl1, -, -⟩ := hI
    injection e with e
    have e' := congrArg (fun z => z[2]?) e
    simp at e'
    obtain ⟨rfl, _⟩ := e'
    exact ⟨t1, hl1⟩
  have HN := hide (contains_any a1 c1 xs[0].l m W hT1 hTn)
  have hP : askL1 xs m n = (decide (n = 1) && hasT xs[0].l m) := by
    cases xs with
    | nil => exact absurd rfl hne
    | cons y r => rfl
  rw [hP]
  have hpos' : (0 : Int) < ((xs.length : Nat) : Int) := by omega
  clear hcs hI hT1 hP hne
  generalize xs[0].l.length = nl at *
  generalize hasT xs[0].l m = R at *
  by_cases hn : n = 1
  · subst hn
    rw [decide_eq_true rfl, Bool.true_and]
    go_enter Try.func60, Try.ntmps60
    go_wp2_with fail
    refine HN.out.mono ?_
    rintro e w1 ⟨rfl, rfl⟩
    go_wp2_with fail
    go_ret
    exact ⟨rfl, Below.refl _ _⟩
  · rw [decide_eq_false hn, Bool.false_and]
    have hn' : ¬ ((n : Nat) : Int) = 1 := by omega
    go_enter Try.func60, Try.ntmps60
    go_wp2_with fail
    go_ret
    exact ⟨rfl, Below.refl _ _⟩

set_option maxRecDepth 100000 in
set_option maxHeartbeats 1000000 in
theorem lessS_any (a : Option Addr) (c : Nat) (xs : List Itm) (w : World) (hx : ItemsAt w a xs) (hxl : xs.length ≤ 1500000) (hsum : (xs.map Itm.l).flatten.length ≤ 1500000) (SE : Int) (TL : List ByteArray) (HS : Hid (SE = setsF xs ∧ TL = if setsF xs = 0 then thoseL (askL1 xs) (xs.map Itm.l) else [])) :
    Calls Try.prog 29 #[.slice a xs.length c] w fun e w' => ∃ a' cap, e = .returned (.tuple #[.slice a' TL.length cap, .int .i64 SE]) ∧ (∀ W, (∀ g o u, w.heap.size ≤ g → w'.cell? ⟨g, o, none⟩ = some u → W.cell? ⟨g, o, none⟩ = some u) → TextsAt W a' TL) ∧ Below w.heap.size w w' := by
  have HB : Hid (∀ W, ∀ b, W.cell? ⟨b, 0, none⟩ = some (.slice a xs.length c) → Below w.heap.size w W → Calls Try.prog 57 #[.slice a xs.length c, .func (.func 60) #[] #[.pointer (some ⟨b, 0, none⟩)]] W fun e w' => ∃ a' cap, e = .returned (.tuple #[.slice a' TL.length cap, .int .i64 SE]) ∧ (∀ W', (∀ g o u, W.heap.size ≤ g → w'.cell? ⟨g, o, none⟩ = some u → W'.cell? ⟨g, o, none⟩ = some u) → TextsAt W' a' TL) ∧ Below W.heap.size W w') := fun W b hcb hW => by
    by_cases hne : xs = []
    · subst hne
      obtain ⟨e1, e2⟩ := HS.out
      have h1 : SE = 1 := e1
      have h2 : TL = [] := e2
      subst h1 h2
      exact those_none a c _ W
    · have e : setsF xs = setsE xs := if_neg hne
      refine thoseL_some b (askL1 xs) a c xs W (hx.below hW) hne hxl hsum SE TL (by rw [← e]; exact HS.out) (fun W2 m n hW2 => ?_)
      exact askL1_any b a c xs m n W2 (hx.below (hW.trans (hW2.mono hW.size))) hne hxl ((hW2.cell (p := ⟨b, 0, none⟩) (World.block_lt_of_cell? _ _ hcb)).trans hcb)
  clear hx HS
  go_enter Try.func29, Try.ntmps29
  go_wp2_with fail
  refine (HB.out _ w.heap.size (by simp [go_sem]) ((Below.refl _ w).alloc (Nat.le_refl _) _)).mono ?_
  rintro e w1 ⟨a', cap, rfl, hT, hb⟩
  have HT := hide hT
  clear hT HB
  go_wp2_with fail
  refine bodyPost_ret (v := .tuple #[.slice a' TL.length cap, .int .i64 SE]) (by simp [results, Try.results29, go_sem]) rfl ⟨a', cap, rfl, fun W hW => HT.out W (fun g o u hg hu => hW g o u (by simp at hg; omega) hu), ((Below.refl _ w).alloc (Nat.le_refl _) _).trans (hb.mono (by simp))⟩
end Go.Proofs.Ytmpcnkaodjjkbac
