/- What the reference takes out of bytes, whatever is left; the frame in which it does. -/
import Derived.Test.YtolpmaapdkhigabROne
import Derived.Test.YtolpmaapdkhigabIDec10
import Derived.Test.YtolpmaapdkhigabRChk6
import Derived.Handy
namespace Go.Proofs.Ytolpmaapdkhigab
open Go.RowKit

/-- a text that is taken, if nothing has failed yet -/
def tkT (bad : Bool) (s : ByteArray) : Option (ByteArray × List UInt8) := if bad then none else pText s.data.toList
def tkS (o : Option (ByteArray × List UInt8)) : ByteArray := match o with
  | some (t, _) => t
  | none => ⟨#[]⟩
theorem told_all (b : Nat) (s : ByteArray) (bad : Bool) (w : World) (h : TakeAt b s bad w) :
    Calls Try.prog 35 #[.pointer (some ⟨b, 0, none⟩)] w fun e w' => e = .returned (.string (tkS (tkT bad s))) ∧ (∃ s', TakeAt b s' (tkT bad s).isNone w' ∧ ∀ t q, tkT bad s = some (t, q) → s' = ⟨q.toArray⟩) ∧ Kept (one b) w w' := by
  cases hp : tkT bad s with
  | none =>
    refine (takerTold_bad b s bad w h ?_).mono ?_
    · cases bad with
      | true => exact .inl rfl
      | false => exact .inr hp
    · rintro e w' ⟨rfl, ⟨s', h1⟩, h2⟩
      exact ⟨rfl, ⟨s', h1, fun t q hx => by cases hx⟩, h2⟩
  | some y =>
    obtain ⟨t, q⟩ := y
    cases bad with
    | true => cases hp
    | false =>
      have es : s = ⟨s.data.toList.toArray⟩ := by cases s; simp
      have h' : TakeAt b ⟨s.data.toList.toArray⟩ false w := by rw [← es]; exact h
      refine (takerTold_ok b s.data.toList t q w h' hp).mono ?_
      rintro e w' ⟨rfl, h1, h2⟩
      exact ⟨rfl, ⟨_, h1, fun t' q' hx => by injection hx with hx; injection hx with e1 e2; rw [e2]⟩, h2⟩
/-- a byte that is taken, if nothing has failed yet -/
def tkO (bad : Bool) (s : ByteArray) : Option (UInt8 × List UInt8) := if bad then none else match s.data.toList with
  | [] => none
  | c :: r => some (c, r)
def tkN (o : Option (UInt8 × List UInt8)) : Nat := match o with
  | some (c, _) => c.toNat
  | none => 0
theorem one_all (b : Nat) (s : ByteArray) (bad : Bool) (w : World) (h : TakeAt b s bad w) :
    Calls Try.prog 33 #[.pointer (some ⟨b, 0, none⟩)] w fun e w' => e = .returned (.int .i64 (tkN (tkO bad s))) ∧ (∃ s', TakeAt b s' (tkO bad s).isNone w' ∧ ∀ c q, tkO bad s = some (c, q) → s' = ⟨q.toArray⟩) ∧ Kept (one b) w w' := by
  have es : s = ⟨s.data.toList.toArray⟩ := by cases s; simp
  cases bad with
  | true =>
    refine (takerOne_bad b s true w h (.inl rfl)).mono ?_
    rintro e w' ⟨rfl, h1, h2⟩
    exact ⟨rfl, ⟨s, h1, fun c q hx => by cases hx⟩, h2⟩
  | false =>
    cases hl : s.data.toList with
    | nil =>
      rw [hl] at es
      have ho : tkO false s = none := by simp [tkO, hl]
      rw [ho]
      refine (takerOne_bad b s false w h (.inr es)).mono ?_
      rintro e w' ⟨rfl, h1, h2⟩
      exact ⟨rfl, ⟨s, h1, fun c q hx => by cases hx⟩, h2⟩
    | cons c r =>
      rw [hl] at es
      have ho : tkO false s = some (c, r) := by simp [tkO, hl]
      rw [ho]
      refine (takerOne_ok b c r w (by rw [← es]; exact h)).mono ?_
      rintro e w' ⟨rfl, h1, h2⟩
      exact ⟨rfl, ⟨_, h1, fun c' q' hx => by injection hx with hx; injection hx with e1 e2; rw [e2]⟩, h2⟩
theorem TakeAt.kept {b : Nat} {s : ByteArray} {bad : Bool} {w w' : World} (h : TakeAt b s bad w) {S : Nat → Prop} (hk : Kept S w w') (hs : ¬ S b) : TakeAt b s bad w' :=
  ⟨hk.cell' h.c0 hs, hk.cell' h.c1 hs, (hk.frozen (p := ⟨b, 0, none⟩) (World.block_lt_of_cell? _ _ h.c0) hs).trans h.f0, (hk.frozen (p := ⟨b, 1, none⟩) (World.block_lt_of_cell? _ _ h.c1) hs).trans h.f1, h.z⟩
theorem BoxAt.keptS {w w' : World} {b : Nat} {v0 v1 v2 v3 v4 : Value} (h : BoxAt w b v0 v1 v2 v3 v4) {S : Nat → Prop} (hk : Kept S w w') (hs : ¬ S b) : BoxAt w' b v0 v1 v2 v3 v4 :=
  ⟨hk.cell' h.c0 hs, hk.cell' h.c1 hs, hk.cell' h.c2 hs, hk.cell' h.c3 hs, hk.cell' h.c4 hs, Nat.lt_of_lt_of_le h.lt hk.size⟩
theorem SoftB.keptS {w w' : World} {b : Nat} (h : SoftB w b) {S : Nat → Prop} (hk : Kept S w w') (hl : b < w.heap.size) (hs : ¬ S b) : SoftB w' b := fun j => (hk.frozen (p := ⟨b, j, none⟩) hl hs).trans (h j)
theorem SoftB.set {w : World} {b : Nat} (h : SoftB w b) (p : Addr) (v : Value) : SoftB (w.setCell p v) b := fun j => by simpa using h j
/-- the frame: the result's box, the taker, the item's box -/
structure OfAt (bx : Nat) (w W : World) (s : ByteArray) (bad : Bool) (v0 v1 v2 v3 v4 : Value) : Prop where
  r : BoxAt W w.heap.size (.int .i64 0) (.string ⟨#[]⟩) (.slice none 0 0) (.slice none 0 0) (.slice none 0 0)
  rs : SoftB W w.heap.size
  t : TakeAt (w.heap.size + 1) s bad W
  x : BoxAt W bx v0 v1 v2 v3 v4
  xs : SoftB W bx
  c : Below w.heap.size w W
  hx : w.heap.size + 1 < bx
theorem OfAt.grow {bx : Nat} {w W W' : World} {s : ByteArray} {bad : Bool} {v0 v1 v2 v3 v4 : Value} (h : OfAt bx w W s bad v0 v1 v2 v3 v4) {S : Nat → Prop} (hk : Kept S W W') (hs : ∀ j, S j → bx < j) : OfAt bx w W' s bad v0 v1 v2 v3 v4 := by
  have hx := h.hx
  have n0 : ¬ S w.heap.size := fun e => by have := hs _ e; omega
  have n1 : ¬ S (w.heap.size + 1) := fun e => by have := hs _ e; omega
  have n2 : ¬ S bx := fun e => by have := hs _ e; omega
  exact ⟨h.r.keptS hk n0, h.rs.keptS hk h.r.lt n0, h.t.kept hk n1, h.x.keptS hk n2, h.xs.keptS hk h.x.lt n2, h.c.trans (hk.below h.c.size (fun j e => by have := hs _ e; omega)), hx⟩
theorem OfAt.taken {bx : Nat} {w W W' : World} {s s' : ByteArray} {bad bad' : Bool} {v0 v1 v2 v3 v4 : Value} (h : OfAt bx w W s bad v0 v1 v2 v3 v4) (hk : Kept (one (w.heap.size + 1)) W W') (ht : TakeAt (w.heap.size + 1) s' bad' W') : OfAt bx w W' s' bad' v0 v1 v2 v3 v4 := by
  have hx := h.hx
  have n0 : ¬ one (w.heap.size + 1) w.heap.size := fun e => by simp only [one] at e; omega
  have n2 : ¬ one (w.heap.size + 1) bx := fun e => by simp only [one] at e; omega
  exact ⟨h.r.keptS hk n0, h.rs.keptS hk h.r.lt n0, ht, h.x.keptS hk n2, h.xs.keptS hk h.x.lt n2, h.c.trans (hk.below h.c.size (fun j e => by simp only [one] at e; omega)), hx⟩
theorem OfAt.setX {bx : Nat} {w W : World} {s : ByteArray} {bad : Bool} {v0 v1 v2 v3 v4 : Value} (h : OfAt bx w W s bad v0 v1 v2 v3 v4) (o : Nat) (v : Value) {u0 u1 u2 u3 u4 : Value} (hX : BoxAt (W.setCell ⟨bx, o, none⟩ v) bx u0 u1 u2 u3 u4) : OfAt bx w (W.setCell ⟨bx, o, none⟩ v) s bad u0 u1 u2 u3 u4 := by
  have hx := h.hx
  have hk : Kept (one bx) W (W.setCell ⟨bx, o, none⟩ v) := (Kept.refl _ _).set1 _ _
  have n0 : ¬ one bx w.heap.size := fun e => by simp only [one] at e; omega
  have n1 : ¬ one bx (w.heap.size + 1) := fun e => by simp only [one] at e; omega
  exact ⟨h.r.keptS hk n0, h.rs.keptS hk h.r.lt n0, h.t.kept hk n1, hX, h.xs.set _ _, h.c.trans (hk.below h.c.size (fun j e => by simp only [one] at e; omega)), hx⟩
theorem OfAt.set1 {bx : Nat} {w W : World} {s : ByteArray} {bad : Bool} {v0 v1 v2 v3 v4 : Value} (h : OfAt bx w W s bad v0 v1 v2 v3 v4) (v : Value) : OfAt bx w (W.setCell ⟨bx, 1, none⟩ v) s bad v0 v v2 v3 v4 :=
  h.setX 1 v ⟨(World.cell?_setCell_other _ _ _ _ (by simp)).trans h.x.c0, World.cell?_setCell_same _ _ _ h.x.c1, (World.cell?_setCell_other _ _ _ _ (by simp)).trans h.x.c2, (World.cell?_setCell_other _ _ _ _ (by simp)).trans h.x.c3, (World.cell?_setCell_other _ _ _ _ (by simp)).trans h.x.c4, by simpa using h.x.lt⟩
theorem OfAt.set2 {bx : Nat} {w W : World} {s : ByteArray} {bad : Bool} {v0 v1 v2 v3 v4 : Value} (h : OfAt bx w W s bad v0 v1 v2 v3 v4) (v : Value) : OfAt bx w (W.setCell ⟨bx, 2, none⟩ v) s bad v0 v1 v v3 v4 :=
  h.setX 2 v ⟨(World.cell?_setCell_other _ _ _ _ (by simp)).trans h.x.c0, (World.cell?_setCell_other _ _ _ _ (by simp)).trans h.x.c1, World.cell?_setCell_same _ _ _ h.x.c2, (World.cell?_setCell_other _ _ _ _ (by simp)).trans h.x.c3, (World.cell?_setCell_other _ _ _ _ (by simp)).trans h.x.c4, by simpa using h.x.lt⟩
theorem OfAt.set3 {bx : Nat} {w W : World} {s : ByteArray} {bad : Bool} {v0 v1 v2 v3 v4 : Value} (h : OfAt bx w W s bad v0 v1 v2 v3 v4) (v : Value) : OfAt bx w (W.setCell ⟨bx, 3, none⟩ v) s bad v0 v1 v2 v v4 :=
  h.setX 3 v ⟨(World.cell?_setCell_other _ _ _ _ (by simp)).trans h.x.c0, (World.cell?_setCell_other _ _ _ _ (by simp)).trans h.x.c1, (World.cell?_setCell_other _ _ _ _ (by simp)).trans h.x.c2, World.cell?_setCell_same _ _ _ h.x.c3, (World.cell?_setCell_other _ _ _ _ (by simp)).trans h.x.c4, by simpa using h.x.lt⟩
theorem OfAt.set4 {bx : Nat} {w W : World} {s : ByteArray} {bad : Bool} {v0 v1 v2 v3 v4 : Value} (h : OfAt bx w W s bad v0 v1 v2 v3 v4) (v : Value) : OfAt bx w (W.setCell ⟨bx, 4, none⟩ v) s bad v0 v1 v2 v3 v :=
  h.setX 4 v ⟨(World.cell?_setCell_other _ _ _ _ (by simp)).trans h.x.c0, (World.cell?_setCell_other _ _ _ _ (by simp)).trans h.x.c1, (World.cell?_setCell_other _ _ _ _ (by simp)).trans h.x.c2, (World.cell?_setCell_other _ _ _ _ (by simp)).trans h.x.c3, World.cell?_setCell_same _ _ _ h.x.c4, by simpa using h.x.lt⟩
/-- the world in which the first byte is taken -/
theorem begin_of (s : ByteArray) (w W : World) (hW : W = (w.alloc (.cells #[.int .i64 0, .string ⟨#[]⟩, .slice none 0 0, .slice none 0 0, .slice none 0 0] 31)).alloc (.cells #[.string s, .bool false] 73)) (hs : s.size ≤ 281474976710656) :
    BoxAt W w.heap.size (.int .i64 0) (.string ⟨#[]⟩) (.slice none 0 0) (.slice none 0 0) (.slice none 0 0) ∧ SoftB W w.heap.size ∧ TakeAt (w.heap.size + 1) s false W ∧ W.heap.size = w.heap.size + 2 ∧ Below w.heap.size w W := by
  subst hW
  refine ⟨(BoxAt.new w (.int .i64 0) (.string ⟨#[]⟩) (.slice none 0 0) (.slice none 0 0) (.slice none 0 0) 31).alloc _, fun j => by simp [go_sem], ⟨by simp [go_sem], by simp [go_sem], by simp [go_sem], by simp [go_sem], hs⟩, by simp, ?_⟩
  exact ((Below.refl _ w).alloc (Nat.le_refl _) _).alloc (by simp) _
/-- the frame at its beginning -/
theorem OfAt.start {w W w1 : World} {s s' : ByteArray} {bad : Bool} {k : Int} (h : BoxAt W w.heap.size (.int .i64 0) (.string ⟨#[]⟩) (.slice none 0 0) (.slice none 0 0) (.slice none 0 0) ∧ SoftB W w.heap.size ∧ TakeAt (w.heap.size + 1) s false W ∧ W.heap.size = w.heap.size + 2 ∧ Below w.heap.size w W) (hk : Kept (one (w.heap.size + 1)) W w1) (ht : TakeAt (w.heap.size + 1) s' bad w1) :
    OfAt w1.heap.size w (w1.alloc (.cells #[.int .i64 k, .string ⟨#[]⟩, .slice none 0 0, .slice none 0 0, .slice none 0 0] 31)) s' bad (.int .i64 k) (.string ⟨#[]⟩) (.slice none 0 0) (.slice none 0 0) (.slice none 0 0) := by
  obtain ⟨h1, h2, h3, h4, h5⟩ := h
  have hz := hk.size
  have n0 : ¬ one (w.heap.size + 1) w.heap.size := fun e => by simp only [one] at e; omega
  have hk2 : Kept (fun _ => False) w1 (w1.alloc (.cells #[.int .i64 k, .string ⟨#[]⟩, .slice none 0 0, .slice none 0 0, .slice none 0 0] 31)) := (Kept.refl _ _).alloc _
  have b1 := h1.keptS hk n0
  exact ⟨b1.keptS hk2 (fun e => e), (h2.keptS hk h1.lt n0).keptS hk2 b1.lt (fun e => e), ht.kept hk2 (fun e => e), BoxAt.new w1 (.int .i64 k) (.string ⟨#[]⟩) (.slice none 0 0) (.slice none 0 0) (.slice none 0 0) 31, fun j => by simp [go_sem], (h5.trans (hk.below h5.size (fun j e => by simp only [one] at e; omega))).alloc (by omega) _, by omega⟩
theorem bn15 (k : Int) (w : World) (h : 1 ≤ k) (h5 : k ≤ 5) : Calls Try.prog 28 #[.int .i64 k, .int .i64 1, .int .i64 5] w fun e w' => e = .returned (.bool true) ∧ w' = w := bt 1 k 5 w h h5
theorem row_shape {w : World} {B : Nat} {T : TypeId} {n k : Nat} {v : Value} {xs : List Value} (h : w.ownsRow B T n v k xs) : ∃ ao cp, v = .slice ao k cp := by
  rcases h.2 with ⟨rfl, h0⟩ | ⟨g, cap, cur, rfl, _⟩
  · exact ⟨none, 0, by rw [h0]⟩
  · exact ⟨_, _, rfl⟩
end Go.Proofs.Ytolpmaapdkhigab
