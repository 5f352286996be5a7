/- WALKS of the reference's reading of one reply. -/
import Derived.Test.YtolpmaapdkhigaaDoorTells8
import Derived.Test.YtolpmaapdkhigaaDoorTells9
import Derived.Test.YtolpmaapdkhigaaDoorDec8
import Derived.Handy
namespace Go.Proofs.YtolpmaapdkhigaaDoor
open Go.RowKit

theorem rep_begin {w w1 : World} {o o2 : Obj} (hb : Below ((w.alloc o).alloc o2).heap.size ((w.alloc o).alloc o2) w1) :
    w1.heap[w.heap.size]? = some o ∧ w1.heap[w.heap.size + 1]? = some o2 ∧ Below w.heap.size w w1 ∧ w.heap.size + 2 ≤ w1.heap.size := by
  have e : (w.alloc o).heap.size = w.heap.size + 1 := by simp
  have h2 := heap_alloc_new (w.alloc o) o2
  rw [e] at h2
  have hs : ((w.alloc o).alloc o2).heap.size = w.heap.size + 2 := by simp
  rw [hs] at hb
  have h0 := hb.size
  rw [hs] at h0
  exact ⟨(hb.block w.heap.size (by omega)).trans ((Below.heap_alloc _ _ _ (by simp)).trans (heap_alloc_new w o)), (hb.block (w.heap.size + 1) (by omega)).trans h2,
    (((Below.refl _ w).alloc (Nat.le_refl _) _).alloc (by simp) _).trans (hb.mono (by omega)), h0⟩

/-- four cells stored into a block of the call's own -/
theorem put4_below {w w1 : World} {g : Nat} (h : Below w.heap.size w w1) (hg : w.heap.size ≤ g) (a b c d : Value) :
    Below w.heap.size w ((((w1.setCell ⟨g, 0, none⟩ a).setCell ⟨g, 1, none⟩ b).setCell ⟨g, 2, none⟩ c).setCell ⟨g, 3, none⟩ d) :=
  (((h.setCell (p := ⟨g, 0, none⟩) hg a).setCell (p := ⟨g, 1, none⟩) hg b).setCell (p := ⟨g, 2, none⟩) hg c).setCell (p := ⟨g, 3, none⟩) hg d

/-- what the reference's reading of one reply answers: nothing, or the reply and where it ends -/
def SinglePost (s : ByteArray) (c : UInt8) (l : List UInt8) (w : World) (e : Ending) (w' : World) : Prop :=
  Below w.heap.size w w' ∧
    (∀ r q, pSingle c l = .ok (r, q) → e = .returned (.tuple #[r.val, .int .i64 ((s.size - q.length : Nat) : Int), .bool true])) ∧
    (∀ n, pSingle c l = .error n → ∃ z, e = .returned (.tuple #[.agg zCells, .int .i64 z, .bool false]) ∨ ∃ k, e = .returned (.tuple #[.agg #[.int .i64 k, .string ⟨#[]⟩, .int .i64 0, .slice none 0 0], .int .i64 z, .bool false]))
theorem SinglePost.bad {s : ByteArray} {c : UInt8} {l : List UInt8} {w w' : World} {n : Nat} (hp : pSingle c l = .error n) (hb : Below w.heap.size w w') (k z : Int) :
    SinglePost s c l w (.returned (.tuple #[.agg #[.int .i64 k, .string ⟨#[]⟩, .int .i64 0, .slice none 0 0], .int .i64 z, .bool false])) w' :=
  ⟨hb, fun r q hx => by rw [hp] at hx; simp at hx, fun m _ => ⟨z, .inr ⟨k, rfl⟩⟩⟩
theorem SinglePost.good {s : ByteArray} {c : UInt8} {l q : List UInt8} {w w' : World} {r : One} {z : Int} (hp : pSingle c l = .ok (r, q)) (hb : Below w.heap.size w w') (hz : z = ((s.size - q.length : Nat) : Int)) :
    SinglePost s c l w (.returned (.tuple #[.agg #[.int .i64 r.k, .string ⟨r.t.toArray⟩, .int .i64 r.n, .slice none 0 0], .int .i64 z, .bool true])) w' :=
  ⟨hb, fun r' q' hx => by rw [hp] at hx; simp at hx; obtain ⟨rfl, rfl⟩ := hx; rw [hz]; rfl, fun m hx => by rw [hp] at hx; simp at hx⟩
theorem lineRet_ok {s : ByteArray} {l x q : List UInt8} (h : pLine l = .ok (x, q)) : lineRet s l = .returned (.tuple #[.string ⟨x.toArray⟩, .int .i64 ((s.size - q.length : Nat) : Int), .bool true]) := by
  rw [lineRet, h]
theorem lineRet_err {s : ByteArray} {l : List UInt8} {n : Nat} (h : pLine l = .error n) : lineRet s l = .returned (.tuple #[.string ⟨#[]⟩, .int .i64 ((s.size - l.length : Nat) : Int), .bool false]) := by
  rw [lineRet, h]
/-- where a reply begins -/
structure Here (s : ByteArray) (c : UInt8) (l : List UInt8) (p : Nat) : Prop where
  lt : p < s.size
  get : ∀ h : p < s.size, s[p] = c
  size : p + 1 + l.length = s.size
  suf : l <:+ s.data.toList
theorem here_of {s : ByteArray} {c : UInt8} {l : List UInt8} (h : (c :: l) <:+ s.data.toList) : Here s c l (s.size - (l.length + 1)) := by
  have hl : l.length + 1 ≤ s.size := by rw [← size_list]; exact h.length_le
  exact ⟨by omega, fun hk => get_of_suffix h hk, by omega, suffix_cons h⟩
theorem line_here {s : ByteArray} {c : UInt8} {l : List UInt8} {p : Nat} (h : Here s c l p) (hs : s.size ≤ 281474976710656) (w : World) :
    Calls Tryd.prog 46 #[.string s, .int .i64 ((p : Int) + 1)] w fun e w' => e = lineRet s l ∧ w' = w := by
  have h1 := h.size
  have := lineAt_any s l w h.suf hs
  rw [show ((s.size - l.length : Nat) : Int) = (p : Int) + 1 by omega] at this
  exact this

set_option maxRecDepth 100000 in
set_option maxHeartbeats 4000000 in
theorem refS_line (s : ByteArray) (c : UInt8) (l : List UInt8) (p : Nat) (b : Bool) (w : World) (h : Here s c l p) (hs : s.size ≤ 281474976710656) (n : Nat) (hp : pLine l = .error n) (hq : ∃ m, pSingle c l = .error m) :
    Calls Tryd.prog 29 #[.string s, .int .i64 (p : Int), .bool b] w (SinglePost s c l w) := by
  obtain ⟨m, hm⟩ := hq
  have HM := hide hm
  have HL : Hid (∀ W, Calls Tryd.prog 46 #[.string s, .int .i64 ((p : Int) + 1)] W fun e w' => e = .returned (.tuple #[.string ⟨#[]⟩, .int .i64 ((s.size - l.length : Nat) : Int), .bool false]) ∧ w' = W) := fun W => by
    rw [← lineRet_err hp]
    exact line_here h hs W
  clear hm hp
  have h1 := h.lt
  have h2 := h.size
  have hg : s[p].toNat = c.toNat := by rw [h.get h1]
  go_enter Tryd.func29, Tryd.ntmps29
  go_wp2_with fail
  refine (HL.out _).mono ?_
  rintro e w1 ⟨rfl, rfl⟩
  obtain ⟨hB0, hB1, hb1, hz1⟩ := rep_begin (Below.refl _ ((w.alloc (.cells #[.int .i64 0, .string ⟨#[]⟩, .int .i64 0, .slice none 0 0] 24)).alloc (.cells #[.int .i64 0, .string ⟨#[]⟩, .int .i64 0, .slice none 0 0] 24)))
  generalize hW1 : (w.alloc (.cells #[.int .i64 0, .string ⟨#[]⟩, .int .i64 0, .slice none 0 0] 24)).alloc (.cells #[.int .i64 0, .string ⟨#[]⟩, .int .i64 0, .slice none 0 0] 24) = w1 at *
  obtain ⟨c0, c1, c2, c3, f0, f1, f2, f3⟩ := four_of hB0
  obtain ⟨d0, d1, d2, d3, g0, g1, g2, g3⟩ := four_of hB1
  have HB0 := hide hB0
  clear hB0 hB1
  go_wp2_with fail
  clear c0 c1 c2 c3 f0 f1 f2 f3 d0 d1 d2 d3 g0 g1 g2 g3
  have hh2 := put4_heap HB0.out (.int .i64 0) (.string ⟨#[]⟩) (.int .i64 0) (.slice none 0 0)
  have hk2 := put4_below hb1 (Nat.le_refl _) (.int .i64 0) (.string ⟨#[]⟩) (.int .i64 0) (.slice none 0 0)
  generalize (((w1.setCell ⟨w.heap.size, 0, none⟩ (.int .i64 0)).setCell ⟨w.heap.size, 1, none⟩ (.string ⟨#[]⟩)).setCell ⟨w.heap.size, 2, none⟩ (.int .i64 0)).setCell ⟨w.heap.size, 3, none⟩ (.slice none 0 0) = w2 at *
  obtain ⟨k0, k1, k2, k3, e0, e1, e2, e3⟩ := four_of hh2
  exact bodyPost_ret (v := .tuple #[.agg #[.int .i64 0, .string ⟨#[]⟩, .int .i64 0, .slice none 0 0], .int .i64 p, .bool false]) (by simp [results, Tryd.results29, go_sem, k0, k1, k2, k3]) rfl (SinglePost.bad HM.out hk2 0 _)

set_option maxRecDepth 100000 in
set_option maxHeartbeats 4000000 in
theorem refS_text (s : ByteArray) (c : UInt8) (l : List UInt8) (p : Nat) (b : Bool) (w : World) (h : Here s c l p) (hs : s.size ≤ 281474976710656) (x q : List UInt8) (hp : pLine l = .ok (x, q)) (hc : c.toNat = 43) :
    Calls Tryd.prog 29 #[.string s, .int .i64 (p : Int), .bool b] w (SinglePost s c l w) := by
  have HP := hide hp
  have HL : Hid (∀ W, Calls Tryd.prog 46 #[.string s, .int .i64 ((p : Int) + 1)] W fun e w' => e = .returned (.tuple #[.string ⟨x.toArray⟩, .int .i64 ((s.size - q.length : Nat) : Int), .bool true]) ∧ w' = W) := fun W => by
    rw [← lineRet_ok hp]
    exact line_here h hs W
  obtain ⟨hlen, hqs⟩ := pLine_len l x q hp
  clear hp
  have HI : Hid (∀ W, Calls Tryd.prog 47 #[.string ⟨x.toArray⟩] W fun e w' => e = .returned (.tuple #[.int .i64 ((pInt x).getD 0), .bool (pInt x).isSome]) ∧ Below W.heap.size W w') := fun W => by
    have := intOf_any ⟨x.toArray⟩ W
    rw [toList_mk] at this
    exact this
  generalize (pInt x).getD 0 = nn at *
  generalize (pInt x).isSome = oo at *
  have HM : Hid (pSingle c l = .ok (⟨1, x, 0⟩, q)) := by
    rw [Hid, pSingle, if_pos (UInt8.toNat_inj.mp (by simpa using hc)), HP.out]
  generalize hz : s.size - q.length = z at *
  generalize hX : (⟨x.toArray⟩ : ByteArray) = X at *
  have h1 := h.lt
  have h2 := h.size
  have hg : s[p].toNat = c.toNat := by rw [h.get h1]
  go_enter Tryd.func29, Tryd.ntmps29
  go_wp2_with fail
  refine (HL.out _).mono ?_
  rintro e w1 ⟨rfl, rfl⟩
  go_wp2_with fail
  refine (HI.out _).mono ?_
  rintro e w1 ⟨rfl, hb0⟩
  obtain ⟨hB0, hB1, hb1, hz1⟩ := rep_begin hb0
  clear hb0 HI HL
  obtain ⟨c0, c1, c2, c3, f0, f1, f2, f3⟩ := four_of hB0
  obtain ⟨d0, d1, d2, d3, g0, g1, g2, g3⟩ := four_of hB1
  have HB0 := hide hB0
  clear hB0 hB1
  go_wp2_with fail
  clear c0 c1 c2 c3 f0 f1 f2 f3 d0 d1 d2 d3 g0 g1 g2 g3
  have hh2 := put4_heap HB0.out (.int .i64 1) (.string X) (.int .i64 0) (.slice none 0 0)
  have hk2 := put4_below hb1 (Nat.le_refl _) (.int .i64 1) (.string X) (.int .i64 0) (.slice none 0 0)
  generalize (((w1.setCell ⟨w.heap.size, 0, none⟩ (.int .i64 1)).setCell ⟨w.heap.size, 1, none⟩ (.string X)).setCell ⟨w.heap.size, 2, none⟩ (.int .i64 0)).setCell ⟨w.heap.size, 3, none⟩ (.slice none 0 0) = w2 at *
  obtain ⟨k0, k1, k2, k3, e0, e1, e2, e3⟩ := four_of hh2
  exact bodyPost_ret (v := .tuple #[.agg #[.int .i64 1, .string X, .int .i64 0, .slice none 0 0], .int .i64 z, .bool true]) (by simp [results, Tryd.results29, go_sem, k0, k1, k2, k3]) rfl (by subst hX; exact SinglePost.good HM.out hk2 (by rw [hz]))

set_option maxRecDepth 100000 in
set_option maxHeartbeats 4000000 in
theorem refS_err_ok (s : ByteArray) (c : UInt8) (l : List UInt8) (p : Nat) (b : Bool) (w : World) (h : Here s c l p) (hs : s.size ≤ 281474976710656) (x q : List UInt8) (hp : pLine l = .ok (x, q)) (v : Int) (hv : pInt x = some v) (hc : c.toNat = 45) :
    Calls Tryd.prog 29 #[.string s, .int .i64 (p : Int), .bool b] w (SinglePost s c l w) := by
  have HP := hide hp
  have HL : Hid (∀ W, Calls Tryd.prog 46 #[.string s, .int .i64 ((p : Int) + 1)] W fun e w' => e = .returned (.tuple #[.string ⟨x.toArray⟩, .int .i64 ((s.size - q.length : Nat) : Int), .bool true]) ∧ w' = W) := fun W => by
    rw [← lineRet_ok hp]
    exact line_here h hs W
  obtain ⟨hlen, hqs⟩ := pLine_len l x q hp
  clear hp
  have HI : Hid (∀ W, Calls Tryd.prog 47 #[.string ⟨x.toArray⟩] W fun e w' => e = .returned (.tuple #[.int .i64 v, .bool true]) ∧ Below W.heap.size W w') := fun W => by
    have := intOf_any ⟨x.toArray⟩ W
    rw [toList_mk, hv] at this
    exact this
  have HM : Hid (pSingle c l = .ok (⟨2, [], v⟩, q)) := by
    rw [Hid, pSingle, if_neg (fun e => by subst e; simp at hc), if_pos (UInt8.toNat_inj.mp (by simpa using hc)), pNumber, HP.out]
    simp only [hv]
  generalize hz : s.size - q.length = z at *
  generalize hX : (⟨x.toArray⟩ : ByteArray) = X at *
  have h1 := h.lt
  have h2 := h.size
  have hg : s[p].toNat = c.toNat := by rw [h.get h1]
  go_enter Tryd.func29, Tryd.ntmps29
  go_wp2_with fail
  refine (HL.out _).mono ?_
  rintro e w1 ⟨rfl, rfl⟩
  go_wp2_with fail
  refine (HI.out _).mono ?_
  rintro e w1 ⟨rfl, hb0⟩
  obtain ⟨hB0, hB1, hb1, hz1⟩ := rep_begin hb0
  clear hb0 HI HL
  obtain ⟨c0, c1, c2, c3, f0, f1, f2, f3⟩ := four_of hB0
  obtain ⟨d0, d1, d2, d3, g0, g1, g2, g3⟩ := four_of hB1
  have HB0 := hide hB0
  clear hB0 hB1
  go_wp2_with fail
  clear c0 c1 c2 c3 f0 f1 f2 f3 d0 d1 d2 d3 g0 g1 g2 g3
  have hh2 := put4_heap HB0.out (.int .i64 2) (.string ⟨#[]⟩) (.int .i64 v) (.slice none 0 0)
  have hk2 := put4_below hb1 (Nat.le_refl _) (.int .i64 2) (.string ⟨#[]⟩) (.int .i64 v) (.slice none 0 0)
  generalize (((w1.setCell ⟨w.heap.size, 0, none⟩ (.int .i64 2)).setCell ⟨w.heap.size, 1, none⟩ (.string ⟨#[]⟩)).setCell ⟨w.heap.size, 2, none⟩ (.int .i64 v)).setCell ⟨w.heap.size, 3, none⟩ (.slice none 0 0) = w2 at *
  obtain ⟨k0, k1, k2, k3, e0, e1, e2, e3⟩ := four_of hh2
  exact bodyPost_ret (v := .tuple #[.agg #[.int .i64 2, .string ⟨#[]⟩, .int .i64 v, .slice none 0 0], .int .i64 z, .bool true]) (by simp [results, Tryd.results29, go_sem, k0, k1, k2, k3]) rfl (SinglePost.good HM.out hk2 (by rw [hz]))

set_option maxRecDepth 100000 in
set_option maxHeartbeats 4000000 in
theorem refS_err_bad (s : ByteArray) (c : UInt8) (l : List UInt8) (p : Nat) (b : Bool) (w : World) (h : Here s c l p) (hs : s.size ≤ 281474976710656) (x q : List UInt8) (hp : pLine l = .ok (x, q)) (hv : pInt x = none) (hc : c.toNat = 45) :
    Calls Tryd.prog 29 #[.string s, .int .i64 (p : Int), .bool b] w (SinglePost s c l w) := by
  have HP := hide hp
  have HL : Hid (∀ W, Calls Tryd.prog 46 #[.string s, .int .i64 ((p : Int) + 1)] W fun e w' => e = .returned (.tuple #[.string ⟨x.toArray⟩, .int .i64 ((s.size - q.length : Nat) : Int), .bool true]) ∧ w' = W) := fun W => by
    rw [← lineRet_ok hp]
    exact line_here h hs W
  obtain ⟨hlen, hqs⟩ := pLine_len l x q hp
  clear hp
  have HI : Hid (∀ W, Calls Tryd.prog 47 #[.string ⟨x.toArray⟩] W fun e w' => e = .returned (.tuple #[.int .i64 0, .bool false]) ∧ Below W.heap.size W w') := fun W => by
    have := intOf_any ⟨x.toArray⟩ W
    rw [toList_mk, hv] at this
    exact this
  have HM : Hid (pSingle c l = .error 1) := by
    rw [Hid, pSingle, if_neg (fun e => by subst e; simp at hc), if_pos (UInt8.toNat_inj.mp (by simpa using hc)), pNumber, HP.out]
    simp only [hv]
  generalize hz : s.size - q.length = z at *
  generalize hX : (⟨x.toArray⟩ : ByteArray) = X at *
  have h1 := h.lt
  have h2 := h.size
  have hg : s[p].toNat = c.toNat := by rw [h.get h1]
  go_enter Tryd.func29, Tryd.ntmps29
  go_wp2_with fail
  refine (HL.out _).mono ?_
  rintro e w1 ⟨rfl, rfl⟩
  go_wp2_with fail
  refine (HI.out _).mono ?_
  rintro e w1 ⟨rfl, hb0⟩
  obtain ⟨hB0, hB1, hb1, hz1⟩ := rep_begin hb0
  clear hb0 HI HL
  obtain ⟨c0, c1, c2, c3, f0, f1, f2, f3⟩ := four_of hB0
  obtain ⟨d0, d1, d2, d3, g0, g1, g2, g3⟩ := four_of hB1
  have HB0 := hide hB0
  clear hB0 hB1
  go_wp2_with fail
  clear c0 c1 c2 c3 f0 f1 f2 f3 d0 d1 d2 d3 g0 g1 g2 g3
  have hh2 := put4_heap HB0.out (.int .i64 2) (.string ⟨#[]⟩) (.int .i64 0) (.slice none 0 0)
  have hk2 := put4_below hb1 (Nat.le_refl _) (.int .i64 2) (.string ⟨#[]⟩) (.int .i64 0) (.slice none 0 0)
  generalize (((w1.setCell ⟨w.heap.size, 0, none⟩ (.int .i64 2)).setCell ⟨w.heap.size, 1, none⟩ (.string ⟨#[]⟩)).setCell ⟨w.heap.size, 2, none⟩ (.int .i64 0)).setCell ⟨w.heap.size, 3, none⟩ (.slice none 0 0) = w2 at *
  obtain ⟨k0, k1, k2, k3, e0, e1, e2, e3⟩ := four_of hh2
  exact bodyPost_ret (v := .tuple #[.agg #[.int .i64 2, .string ⟨#[]⟩, .int .i64 0, .slice none 0 0], .int .i64 z, .bool false]) (by simp [results, Tryd.results29, go_sem, k0, k1, k2, k3]) rfl (SinglePost.bad HM.out hk2 2 _)

set_option maxRecDepth 100000 in
set_option maxHeartbeats 4000000 in
theorem refS_num_ok (s : ByteArray) (c : UInt8) (l : List UInt8) (p : Nat) (b : Bool) (w : World) (h : Here s c l p) (hs : s.size ≤ 281474976710656) (x q : List UInt8) (hp : pLine l = .ok (x, q)) (v : Int) (hv : pInt x = some v) (hc : c.toNat = 58) :
    Calls Tryd.prog 29 #[.string s, .int .i64 (p : Int), .bool b] w (SinglePost s c l w) := by
  have HP := hide hp
  have HL : Hid (∀ W, Calls Tryd.prog 46 #[.string s, .int .i64 ((p : Int) + 1)] W fun e w' => e = .returned (.tuple #[.string ⟨x.toArray⟩, .int .i64 ((s.size - q.length : Nat) : Int), .bool true]) ∧ w' = W) := fun W => by
    rw [← lineRet_ok hp]
    exact line_here h hs W
  obtain ⟨hlen, hqs⟩ := pLine_len l x q hp
  clear hp
  have HI : Hid (∀ W, Calls Tryd.prog 47 #[.string ⟨x.toArray⟩] W fun e w' => e = .returned (.tuple #[.int .i64 v, .bool true]) ∧ Below W.heap.size W w') := fun W => by
    have := intOf_any ⟨x.toArray⟩ W
    rw [toList_mk, hv] at this
    exact this
  have HM : Hid (pSingle c l = .ok (⟨3, [], v⟩, q)) := by
    rw [Hid, pSingle, if_neg (fun e => by subst e; simp at hc), if_neg (fun e => by subst e; simp at hc), if_pos (UInt8.toNat_inj.mp (by simpa using hc)), pNumber, HP.out]
    simp only [hv]
  generalize hz : s.size - q.length = z at *
  generalize hX : (⟨x.toArray⟩ : ByteArray) = X at *
  have h1 := h.lt
  have h2 := h.size
  have hg : s[p].toNat = c.toNat := by rw [h.get h1]
  go_enter Tryd.func29, Tryd.ntmps29
  go_wp2_with fail
  refine (HL.out _).mono ?_
  rintro e w1 ⟨rfl, rfl⟩
  go_wp2_with fail
  refine (HI.out _).mono ?_
  rintro e w1 ⟨rfl, hb0⟩
  obtain ⟨hB0, hB1, hb1, hz1⟩ := rep_begin hb0
  clear hb0 HI HL
  obtain ⟨c0, c1, c2, c3, f0, f1, f2, f3⟩ := four_of hB0
  obtain ⟨d0, d1, d2, d3, g0, g1, g2, g3⟩ := four_of hB1
  have HB0 := hide hB0
  clear hB0 hB1
  go_wp2_with fail
  clear c0 c1 c2 c3 f0 f1 f2 f3 d0 d1 d2 d3 g0 g1 g2 g3
  have hh2 := put4_heap HB0.out (.int .i64 3) (.string ⟨#[]⟩) (.int .i64 v) (.slice none 0 0)
  have hk2 := put4_below hb1 (Nat.le_refl _) (.int .i64 3) (.string ⟨#[]⟩) (.int .i64 v) (.slice none 0 0)
  generalize (((w1.setCell ⟨w.heap.size, 0, none⟩ (.int .i64 3)).setCell ⟨w.heap.size, 1, none⟩ (.string ⟨#[]⟩)).setCell ⟨w.heap.size, 2, none⟩ (.int .i64 v)).setCell ⟨w.heap.size, 3, none⟩ (.slice none 0 0) = w2 at *
  obtain ⟨k0, k1, k2, k3, e0, e1, e2, e3⟩ := four_of hh2
  exact bodyPost_ret (v := .tuple #[.agg #[.int .i64 3, .string ⟨#[]⟩, .int .i64 v, .slice none 0 0], .int .i64 z, .bool true]) (by simp [results, Tryd.results29, go_sem, k0, k1, k2, k3]) rfl (SinglePost.good HM.out hk2 (by rw [hz]))

set_option maxRecDepth 100000 in
set_option maxHeartbeats 4000000 in
theorem refS_num_bad (s : ByteArray) (c : UInt8) (l : List UInt8) (p : Nat) (b : Bool) (w : World) (h : Here s c l p) (hs : s.size ≤ 281474976710656) (x q : List UInt8) (hp : pLine l = .ok (x, q)) (hv : pInt x = none) (hc : c.toNat = 58) :
    Calls Tryd.prog 29 #[.string s, .int .i64 (p : Int), .bool b] w (SinglePost s c l w) := by
  have HP := hide hp
  have HL : Hid (∀ W, Calls Tryd.prog 46 #[.string s, .int .i64 ((p : Int) + 1)] W fun e w' => e = .returned (.tuple #[.string ⟨x.toArray⟩, .int .i64 ((s.size - q.length : Nat) : Int), .bool true]) ∧ w' = W) := fun W => by
    rw [← lineRet_ok hp]
    exact line_here h hs W
  obtain ⟨hlen, hqs⟩ := pLine_len l x q hp
  clear hp
  have HI : Hid (∀ W, Calls Tryd.prog 47 #[.string ⟨x.toArray⟩] W fun e w' => e = .returned (.tuple #[.int .i64 0, .bool false]) ∧ Below W.heap.size W w') := fun W => by
    have := intOf_any ⟨x.toArray⟩ W
    rw [toList_mk, hv] at this
    exact this
  have HM : Hid (pSingle c l = .error 1) := by
    rw [Hid, pSingle, if_neg (fun e => by subst e; simp at hc), if_neg (fun e => by subst e; simp at hc), if_pos (UInt8.toNat_inj.mp (by simpa using hc)), pNumber, HP.out]
    simp only [hv]
  generalize hz : s.size - q.length = z at *
  generalize hX : (⟨x.toArray⟩ : ByteArray) = X at *
  have h1 := h.lt
  have h2 := h.size
  have hg : s[p].toNat = c.toNat := by rw [h.get h1]
  go_enter Tryd.func29, Tryd.ntmps29
  go_wp2_with fail
  refine (HL.out _).mono ?_
  rintro e w1 ⟨rfl, rfl⟩
  go_wp2_with fail
  refine (HI.out _).mono ?_
  rintro e w1 ⟨rfl, hb0⟩
  obtain ⟨hB0, hB1, hb1, hz1⟩ := rep_begin hb0
  clear hb0 HI HL
  obtain ⟨c0, c1, c2, c3, f0, f1, f2, f3⟩ := four_of hB0
  obtain ⟨d0, d1, d2, d3, g0, g1, g2, g3⟩ := four_of hB1
  have HB0 := hide hB0
  clear hB0 hB1
  go_wp2_with fail
  clear c0 c1 c2 c3 f0 f1 f2 f3 d0 d1 d2 d3 g0 g1 g2 g3
  have hh2 := put4_heap HB0.out (.int .i64 3) (.string ⟨#[]⟩) (.int .i64 0) (.slice none 0 0)
  have hk2 := put4_below hb1 (Nat.le_refl _) (.int .i64 3) (.string ⟨#[]⟩) (.int .i64 0) (.slice none 0 0)
  generalize (((w1.setCell ⟨w.heap.size, 0, none⟩ (.int .i64 3)).setCell ⟨w.heap.size, 1, none⟩ (.string ⟨#[]⟩)).setCell ⟨w.heap.size, 2, none⟩ (.int .i64 0)).setCell ⟨w.heap.size, 3, none⟩ (.slice none 0 0) = w2 at *
  obtain ⟨k0, k1, k2, k3, e0, e1, e2, e3⟩ := four_of hh2
  exact bodyPost_ret (v := .tuple #[.agg #[.int .i64 3, .string ⟨#[]⟩, .int .i64 0, .slice none 0 0], .int .i64 z, .bool false]) (by simp [results, Tryd.results29, go_sem, k0, k1, k2, k3]) rfl (SinglePost.bad HM.out hk2 3 _)
end Go.Proofs.YtolpmaapdkhigaaDoor
