/- WALKS of the reference's reading of a list. -/
import Derived.Test.YtolpmaapdkhigaaDoorTells11
import Derived.Test.YtolpmaapdkhigaaDoorPlain1
import Derived.Deep.AppendLies
import Derived.Handy
namespace Go.Proofs.YtolpmaapdkhigaaDoor
open Go.RowKit

theorem pSingle_suffix {c : UInt8} {l q : List UInt8} {r : One} (h : pSingle c l = .ok (r, q)) : q <:+ l := by
  unfold pSingle at h
  split at h
  · split at h
    · simp at h
    · rename_i x q' he
      simp at h
      obtain ⟨rfl, rfl⟩ := h
      exact (pLine_len l _ _ he).2
  · split at h
    · split at h
      · simp at h
      · rename_i x q' he; simp at h; obtain ⟨rfl, rfl⟩ := h; exact (pNumber_bounds he).2.2.1
    · split at h
      · split at h
        · simp at h
        · rename_i x q' he; simp at h; obtain ⟨rfl, rfl⟩ := h; exact (pNumber_bounds he).2.2.1
      · split at h
        · unfold pBytes at h
          split at h
          · simp at h
          · rename_i n q' he
            have h1 := (pNumber_bounds he).2.2.1
            split at h
            · simp at h; obtain ⟨rfl, rfl⟩ := h; exact h1
            · split at h
              · simp at h
              · split at h
                · simp at h
                · split at h
                  · simp at h
                  · rename_i q2 hm
                    simp at h
                    obtain ⟨rfl, rfl⟩ := h
                    exact ((pMust_suffix _ _ _ hm).2.trans (List.drop_suffix _ _)).trans h1
        · simp at h
def pNext : List UInt8 → Except Nat (One × List UInt8)
  | [] => .error 8
  | c :: l => pSingle c l
theorem pNext_suffix {l q : List UInt8} {r : One} (h : pNext l = .ok (r, q)) : q <:+ l := by
  cases l with
  | nil => simp [pNext] at h
  | cons c l => exact (pSingle_suffix h).trans (List.suffix_cons c l)
theorem many_ok {acc : List One} {n : Nat} {l q : List UInt8} {r : One} (h : pNext l = .ok (r, q)) : aheadR acc (pMany (n + 1) l) = aheadR (acc ++ [r]) (pMany n q) := by
  cases l with
  | nil => simp [pNext] at h
  | cons c l => exact aheadR_ok h
theorem many_err {acc : List One} {n x : Nat} {l : List UInt8} (h : pNext l = .error x) : aheadR acc (pMany (n + 1) l) = .error x := by
  cases l with
  | nil => simp [pNext] at h; subst h; rfl
  | cons c l => exact aheadR_err h

set_option maxRecDepth 100000 in
set_option maxHeartbeats 4000000 in
theorem refEmpty (s : ByteArray) (b : Bool) (w : World) :
    Calls Tryd.prog 29 #[.string s, .int .i64 (s.size : Int), .bool b] w fun e w' => e = .returned (.tuple #[.agg #[.int .i64 0, .string ⟨#[]⟩, .int .i64 0, .slice none 0 0], .int .i64 (s.size : Int), .bool false]) ∧ Below w.heap.size w w' := by
  go_enter Tryd.func29, Tryd.ntmps29
  go_wp2_with fail
  exact bodyPost_ret (v := .tuple #[.agg #[.int .i64 0, .string ⟨#[]⟩, .int .i64 0, .slice none 0 0], .int .i64 (s.size : Int), .bool false]) (by simp [results, Tryd.results29, go_sem]) rfl ⟨rfl, ((Below.refl _ w).alloc (Nat.le_refl _) _).alloc (by simp) _⟩

/-- the next reply of a list, as the reference reads it -/
theorem refNext (s : ByteArray) (l : List UInt8) (w : World) (h : l <:+ s.data.toList) (hs : s.size ≤ 281474976710656) :
    Calls Tryd.prog 29 #[.string s, .int .i64 ((s.size - l.length : Nat) : Int), .bool false] w fun e w' => Below w.heap.size w w' ∧
      ((∃ r q, pNext l = .ok (r, q) ∧ e = .returned (.tuple #[.agg #[.int .i64 r.k, .string ⟨r.t.toArray⟩, .int .i64 r.n, .slice none 0 0], .int .i64 ((s.size - q.length : Nat) : Int), .bool true])) ∨
       (∃ n k z, pNext l = .error n ∧ e = .returned (.tuple #[.agg #[.int .i64 k, .string ⟨#[]⟩, .int .i64 0, .slice none 0 0], .int .i64 z, .bool false]))) := by
  cases l with
  | nil =>
    refine (refEmpty s false w).mono ?_
    rintro e w' ⟨rfl, hb⟩
    exact ⟨hb, .inr ⟨8, 0, _, rfl, rfl⟩⟩
  | cons c l =>
    refine (refSingle s c l (s.size - (l.length + 1)) false w (here_of h) hs (.inl rfl)).mono ?_
    rintro e w' ⟨hb, hok, herr⟩
    refine ⟨hb, ?_⟩
    cases hp : pSingle c l with
    | ok y =>
      obtain ⟨r, q⟩ := y
      exact .inl ⟨r, q, hp, hok r q hp⟩
    | error n =>
      obtain ⟨z, h1 | ⟨k, h1⟩⟩ := herr n hp
      · exact .inr ⟨n, 0, z, hp, h1⟩
      · exact .inr ⟨n, k, z, hp, h1⟩

/-- what the reference's reading of a list answers -/
def ManyPost (s : ByteArray) (l : List UInt8) (w : World) (e : Ending) (w' : World) : Prop :=
  Below w.heap.size w w' ∧
    (∀ rs q, pList l = .ok (rs, q) → ∃ V, e = .returned (.tuple #[.agg #[.int .i64 6, .string ⟨#[]⟩, .int .i64 0, V], .int .i64 ((s.size - q.length : Nat) : Int), .bool true]) ∧ w'.ownsRow w.heap.size 24 4 V rs.length (onesRow rs)) ∧
    (∀ n, pList l = .error n → ∃ k z a len cap, e = .returned (.tuple #[.agg #[.int .i64 k, .string ⟨#[]⟩, .int .i64 0, .slice a len cap], .int .i64 z, .bool false]))
theorem ManyPost.bad {s : ByteArray} {l : List UInt8} {w w' : World} {n : Nat} (hp : pList l = .error n) (hb : Below w.heap.size w w') (k z : Int) (a : Option Addr) (len cap : Nat) :
    ManyPost s l w (.returned (.tuple #[.agg #[.int .i64 k, .string ⟨#[]⟩, .int .i64 0, .slice a len cap], .int .i64 z, .bool false])) w' :=
  ⟨hb, fun r q hx => by rw [hp] at hx; simp at hx, fun m _ => ⟨k, z, a, len, cap, rfl⟩⟩

set_option maxRecDepth 100000 in
set_option maxHeartbeats 4000000 in
theorem refM_line (s : ByteArray) (c : UInt8) (l : List UInt8) (p : Nat) (w : World) (h : Here s c l p) (hs : s.size ≤ 281474976710656) (n : Nat) (hp : pLine l = .error n) :
    Calls Tryd.prog 29 #[.string s, .int .i64 (p : Int), .bool true] w (ManyPost s l w) := by
  have HM : Hid (pList l = .error n) := by rw [Hid, pList, pNumber, hp]
  have HL : Hid (∀ W, Calls Tryd.prog 46 #[.string s, .int .i64 ((p : Int) + 1)] W fun e w' => e = .returned (.tuple #[.string ⟨#[]⟩, .int .i64 ((s.size - l.length : Nat) : Int), .bool false]) ∧ w' = W) := fun W => by
    rw [← lineRet_err hp]
    exact line_here h hs W
  clear hp
  have h1 := h.lt
  have h2 := h.size
  have hg : s[p].toNat = c.toNat := by rw [h.get h1]
  go_enter Tryd.func29, Tryd.ntmps29
  go_wp2_with fail
  refine (HL.out _).mono ?_
  rintro e w1 ⟨rfl, rfl⟩
  obtain ⟨hB0, hB1, hb1, hz1⟩ := rep_begin (Below.refl _ ((w.alloc (.cells #[.int .i64 0, .string ⟨#[]⟩, .int .i64 0, .slice none 0 0] 24)).alloc (.cells #[.int .i64 0, .string ⟨#[]⟩, .int .i64 0, .slice none 0 0] 24)))
  generalize hW1 : (w.alloc (.cells #[.int .i64 0, .string ⟨#[]⟩, .int .i64 0, .slice none 0 0] 24)).alloc (.cells #[.int .i64 0, .string ⟨#[]⟩, .int .i64 0, .slice none 0 0] 24) = w1 at *
  obtain ⟨c0, c1, c2, c3, f0, f1, f2, f3⟩ := four_of hB0
  obtain ⟨d0, d1, d2, d3, g0, g1, g2, g3⟩ := four_of hB1
  have HB0 := hide hB0
  clear hB0 hB1
  go_wp2_with fail
  clear c0 c1 c2 c3 f0 f1 f2 f3 d0 d1 d2 d3 g0 g1 g2 g3
  have hh2 := put4_heap HB0.out (.int .i64 0) (.string ⟨#[]⟩) (.int .i64 0) (.slice none 0 0)
  have hk2 := put4_below hb1 (Nat.le_refl _) (.int .i64 0) (.string ⟨#[]⟩) (.int .i64 0) (.slice none 0 0)
  generalize (((w1.setCell ⟨w.heap.size, 0, none⟩ (.int .i64 0)).setCell ⟨w.heap.size, 1, none⟩ (.string ⟨#[]⟩)).setCell ⟨w.heap.size, 2, none⟩ (.int .i64 0)).setCell ⟨w.heap.size, 3, none⟩ (.slice none 0 0) = w2 at *
  obtain ⟨k0, k1, k2, k3, e0, e1, e2, e3⟩ := four_of hh2
  exact bodyPost_ret (v := .tuple #[.agg #[.int .i64 0, .string ⟨#[]⟩, .int .i64 0, .slice none 0 0], .int .i64 p, .bool false]) (by simp [results, Tryd.results29, go_sem, k0, k1, k2, k3]) rfl (ManyPost.bad HM.out hk2 0 _ _ _ _)

set_option maxRecDepth 100000 in
set_option maxHeartbeats 4000000 in
theorem refM_nan (s : ByteArray) (c : UInt8) (l : List UInt8) (p : Nat) (w : World) (h : Here s c l p) (hs : s.size ≤ 281474976710656) (x q : List UInt8) (hp : pLine l = .ok (x, q)) (hv : pInt x = none) (hc : c.toNat = 42) :
    Calls Tryd.prog 29 #[.string s, .int .i64 (p : Int), .bool true] w (ManyPost s l w) := by
  have HP := hide hp
  have HL : Hid (∀ W, Calls Tryd.prog 46 #[.string s, .int .i64 ((p : Int) + 1)] W fun e w' => e = .returned (.tuple #[.string ⟨x.toArray⟩, .int .i64 ((s.size - q.length : Nat) : Int), .bool true]) ∧ w' = W) := fun W => by
    rw [← lineRet_ok hp]
    exact line_here h hs W
  obtain ⟨hlen, hqs⟩ := pLine_len l x q hp
  clear hp
  have HI : Hid (∀ W, Calls Tryd.prog 47 #[.string ⟨x.toArray⟩] W fun e w' => e = .returned (.tuple #[.int .i64 0, .bool false]) ∧ Below W.heap.size W w') := fun W => by
    have := intOf_any ⟨x.toArray⟩ W
    rw [toList_mk, hv] at this
    exact this
  have HM : Hid (pList l = .error 1) := by
    rw [Hid, pList, pNumber_none HP.out hv]
  generalize hz : s.size - q.length = z at *
  generalize hX : (⟨x.toArray⟩ : ByteArray) = X at *
  have h1 := h.lt
  have h2 := h.size
  have hg : s[p].toNat = c.toNat := by rw [h.get h1]
  go_enter Tryd.func29, Tryd.ntmps29
  go_wp2_with fail
  refine (HL.out _).mono ?_
  rintro e w1 ⟨rfl, rfl⟩
  go_wp2_with fail
  refine (HI.out _).mono ?_
  rintro e w1 ⟨rfl, hb0⟩
  obtain ⟨hB0, hB1, hb1, hz1⟩ := rep_begin hb0
  clear hb0 HI HL
  obtain ⟨c0, c1, c2, c3, f0, f1, f2, f3⟩ := four_of hB0
  obtain ⟨d0, d1, d2, d3, g0, g1, g2, g3⟩ := four_of hB1
  have HB0 := hide hB0
  clear hB0 hB1
  go_wp2_with fail
  clear c0 c1 c2 c3 f0 f1 f2 f3 d0 d1 d2 d3 g0 g1 g2 g3
  have hh2 := put4_heap HB0.out (.int .i64 0) (.string ⟨#[]⟩) (.int .i64 0) (.slice none 0 0)
  have hk2 := put4_below hb1 (Nat.le_refl _) (.int .i64 0) (.string ⟨#[]⟩) (.int .i64 0) (.slice none 0 0)
  generalize (((w1.setCell ⟨w.heap.size, 0, none⟩ (.int .i64 0)).setCell ⟨w.heap.size, 1, none⟩ (.string ⟨#[]⟩)).setCell ⟨w.heap.size, 2, none⟩ (.int .i64 0)).setCell ⟨w.heap.size, 3, none⟩ (.slice none 0 0) = w2 at *
  obtain ⟨k0, k1, k2, k3, e0, e1, e2, e3⟩ := four_of hh2
  exact bodyPost_ret (v := .tuple #[.agg #[.int .i64 0, .string ⟨#[]⟩, .int .i64 0, .slice none 0 0], .int .i64 p, .bool false]) (by simp [results, Tryd.results29, go_sem, k0, k1, k2, k3]) rfl (ManyPost.bad HM.out hk2 0 _ _ _ _)

set_option maxRecDepth 100000 in
set_option maxHeartbeats 4000000 in
theorem refM_neg (s : ByteArray) (c : UInt8) (l : List UInt8) (p : Nat) (w : World) (h : Here s c l p) (hs : s.size ≤ 281474976710656) (x q : List UInt8) (hp : pLine l = .ok (x, q)) (v : Int) (hv : pInt x = some v) (hv0 : v < 0) (hc : c.toNat = 42) :
    Calls Tryd.prog 29 #[.string s, .int .i64 (p : Int), .bool true] w (ManyPost s l w) := by
  have HP := hide hp
  have HL : Hid (∀ W, Calls Tryd.prog 46 #[.string s, .int .i64 ((p : Int) + 1)] W fun e w' => e = .returned (.tuple #[.string ⟨x.toArray⟩, .int .i64 ((s.size - q.length : Nat) : Int), .bool true]) ∧ w' = W) := fun W => by
    rw [← lineRet_ok hp]
    exact line_here h hs W
  obtain ⟨hlen, hqs⟩ := pLine_len l x q hp
  clear hp
  have HI : Hid (∀ W, Calls Tryd.prog 47 #[.string ⟨x.toArray⟩] W fun e w' => e = .returned (.tuple #[.int .i64 v, .bool true]) ∧ Below W.heap.size W w') := fun W => by
    have := intOf_any ⟨x.toArray⟩ W
    rw [toList_mk, hv] at this
    exact this
  have HM : Hid (pList l = .error 1) := by
    rw [Hid, pList, pNumber_some HP.out hv]
    simp only
    rw [if_pos hv0]
  generalize hz : s.size - q.length = z at *
  generalize hX : (⟨x.toArray⟩ : ByteArray) = X at *
  have h1 := h.lt
  have h2 := h.size
  have hg : s[p].toNat = c.toNat := by rw [h.get h1]
  go_enter Tryd.func29, Tryd.ntmps29
  go_wp2_with fail
  refine (HL.out _).mono ?_
  rintro e w1 ⟨rfl, rfl⟩
  go_wp2_with fail
  refine (HI.out _).mono ?_
  rintro e w1 ⟨rfl, hb0⟩
  obtain ⟨hB0, hB1, hb1, hz1⟩ := rep_begin hb0
  clear hb0 HI HL
  obtain ⟨c0, c1, c2, c3, f0, f1, f2, f3⟩ := four_of hB0
  obtain ⟨d0, d1, d2, d3, g0, g1, g2, g3⟩ := four_of hB1
  have HB0 := hide hB0
  clear hB0 hB1
  go_wp2_with fail
  clear c0 c1 c2 c3 f0 f1 f2 f3 d0 d1 d2 d3 g0 g1 g2 g3
  have hh2 := put4_heap HB0.out (.int .i64 0) (.string ⟨#[]⟩) (.int .i64 0) (.slice none 0 0)
  have hk2 := put4_below hb1 (Nat.le_refl _) (.int .i64 0) (.string ⟨#[]⟩) (.int .i64 0) (.slice none 0 0)
  generalize (((w1.setCell ⟨w.heap.size, 0, none⟩ (.int .i64 0)).setCell ⟨w.heap.size, 1, none⟩ (.string ⟨#[]⟩)).setCell ⟨w.heap.size, 2, none⟩ (.int .i64 0)).setCell ⟨w.heap.size, 3, none⟩ (.slice none 0 0) = w2 at *
  obtain ⟨k0, k1, k2, k3, e0, e1, e2, e3⟩ := four_of hh2
  exact bodyPost_ret (v := .tuple #[.agg #[.int .i64 0, .string ⟨#[]⟩, .int .i64 0, .slice none 0 0], .int .i64 p, .bool false]) (by simp [results, Tryd.results29, go_sem, k0, k1, k2, k3]) rfl (ManyPost.bad HM.out hk2 0 _ _ _ _)

set_option maxRecDepth 100000 in
set_option maxHeartbeats 4000000 in
theorem refM_list (s : ByteArray) (c : UInt8) (l : List UInt8) (p : Nat) (w : World) (h : Here s c l p) (hs : s.size ≤ 281474976710656) (x q : List UInt8) (hp : pLine l = .ok (x, q)) (m : Nat) (hv : pInt x = some (m : Int)) (hm9 : m ≤ 999999999) (hc : c.toNat = 42) :
    Calls Tryd.prog 29 #[.string s, .int .i64 (p : Int), .bool true] w (ManyPost s l w) := by
  have HP := hide hp
  have HL : Hid (∀ W, Calls Tryd.prog 46 #[.string s, .int .i64 ((p : Int) + 1)] W fun e w' => e = .returned (.tuple #[.string ⟨x.toArray⟩, .int .i64 ((s.size - q.length : Nat) : Int), .bool true]) ∧ w' = W) := fun W => by
    rw [← lineRet_ok hp]
    exact line_here h hs W
  obtain ⟨hlen, hqs⟩ := pLine_len l x q hp
  clear hp
  obtain ⟨i0, hi, hz0, hz1', hz2'⟩ := info_parts infoReply
  have HI : Hid (∀ W, Calls Tryd.prog 47 #[.string ⟨x.toArray⟩] W fun e w' => e = .returned (.tuple #[.int .i64 (m : Int), .bool true]) ∧ Below W.heap.size W w') := fun W => by
    have := intOf_any ⟨x.toArray⟩ W
    rw [toList_mk, hv] at this
    exact this
  have HM : Hid (pList l = pMany m q) := by
    rw [Hid, pList, pNumber_some HP.out hv]
    simp only
    rw [if_neg (by omega), Int.toNat_natCast]
  have HQ : Hid (q <:+ s.data.toList) := hqs.trans h.suf
  clear hqs hv
  generalize hz : s.size - q.length = z at *
  generalize hX : (⟨x.toArray⟩ : ByteArray) = X at *
  have h1 := h.lt
  have h2 := h.size
  have hg : s[p].toNat = c.toNat := by rw [h.get h1]
  go_enter Tryd.func29, Tryd.ntmps29
  go_wp2_with fail
  refine (HL.out _).mono ?_
  rintro e w1 ⟨rfl, rfl⟩
  go_wp2_with fail
  refine (HI.out _).mono ?_
  rintro e w1 ⟨rfl, hb0⟩
  obtain ⟨hB0, hB1, hb1, hz1⟩ := rep_begin hb0
  clear hb0 HI HL
  obtain ⟨c0, c1, c2, c3, f0, f1, f2, f3⟩ := four_of hB0
  obtain ⟨d0, d1, d2, d3, g0, g1, g2, g3⟩ := four_of hB1
  have HB0 := hide hB0
  clear hB0 hB1
  go_wp2_with fail
  have hk0 : Below w.heap.size w (w1.setCell ⟨w.heap.size + 1, 0, none⟩ (.int .i64 6)) := hb1.setCell (p := ⟨w.heap.size + 1, 0, none⟩) (by simp) _
  have HBZ := hide (((Kept.refl (one (w.heap.size + 1)) w1).set1 0 (.int .i64 6)).block w.heap.size (by omega) (fun e => by simp only [one] at e; omega) |>.trans HB0.out)
  have x0 : (w1.setCell ⟨w.heap.size + 1, 0, none⟩ (.int .i64 6)).cell? ⟨w.heap.size + 1, 0, none⟩ = some (.int .i64 6) := World.cell?_setCell_same _ _ _ d0
  have x1 : (w1.setCell ⟨w.heap.size + 1, 0, none⟩ (.int .i64 6)).cell? ⟨w.heap.size + 1, 1, none⟩ = some (.string ⟨#[]⟩) := by rw [World.cell?_setCell_other _ _ _ _ (by simp)]; exact d1
  have x2 : (w1.setCell ⟨w.heap.size + 1, 0, none⟩ (.int .i64 6)).cell? ⟨w.heap.size + 1, 2, none⟩ = some (.int .i64 0) := by rw [World.cell?_setCell_other _ _ _ _ (by simp)]; exact d2
  have x3 : (w1.setCell ⟨w.heap.size + 1, 0, none⟩ (.int .i64 6)).cell? ⟨w.heap.size + 1, 3, none⟩ = some (.slice none 0 0) := by rw [World.cell?_setCell_other _ _ _ _ (by simp)]; exact d3
  have xf : (w1.setCell ⟨w.heap.size + 1, 0, none⟩ (.int .i64 6)).frozen? ⟨w.heap.size + 1, 3, none⟩ = false := by simp [g3]
  clear c0 c1 c2 c3 f0 f1 f2 f3 d0 d1 d2 d3 g0 g1 g2 g3 HB0
  generalize w1.setCell ⟨w.heap.size + 1, 0, none⟩ (.int .i64 6) = w0 at *
  go_loopw [11, 15] (fun t i wr => ∃ (k : Nat) (acc : List One) (q' : List UInt8) (V : Value), k ≤ m ∧ i = .int .i64 k ∧ acc.length = k ∧ t = .int .i64 ((s.size - q'.length : Nat) : Int) ∧ Hid (q' <:+ s.data.toList) ∧ Hid (wr.heap[w.heap.size]? = some (.cells #[.int .i64 0, .string ⟨#[]⟩, .int .i64 0, .slice none 0 0] 24)) ∧
      wr.cell? ⟨w.heap.size + 1, 0, none⟩ = some (.int .i64 6) ∧ wr.cell? ⟨w.heap.size + 1, 1, none⟩ = some (.string ⟨#[]⟩) ∧ wr.cell? ⟨w.heap.size + 1, 2, none⟩ = some (.int .i64 0) ∧ wr.cell? ⟨w.heap.size + 1, 3, none⟩ = some V ∧ wr.frozen? ⟨w.heap.size + 1, 3, none⟩ = false ∧
      wr.ownsRow (w.heap.size + 2) 24 4 V k (onesRow acc) ∧ Below w.heap.size w wr ∧ Hid (pList l = aheadR acc (pMany (m - k) q'))) (fun _ i _ => m - (intOf i).toNat)
  case atStart => exact ⟨0, [], q, _, Nat.zero_le _, rfl, rfl, by rw [hz], HQ, HBZ, x0, x1, x2, x3, xf, World.ownsRow_nil _ _ _ _, hk0, by rw [Hid, HM.out, Nat.sub_zero, aheadR_nil]⟩
  case round =>
    clear x0 x1 x2 x3 xf HBZ HM hk0 hb1 HQ
    obtain ⟨k, acc, q', V, hk, rfl, hacc, rfl, HQ, HB0, c0, c1, c2, c3, f3, hown, hbr, HM⟩ := hrel
    obtain ⟨ao, cp, rfl⟩ := rowSlice hown
    have hwr : w.heap.size + 1 < wr.heap.size := World.block_lt_of_cell? _ _ c0
    by_cases hlt : k < m
    · have HN := hide (refNext s q' wr HQ.out hs)
      generalize s.size - q'.length = tt at *
      go_wp2_with fail
      refine HN.out.mono ?_
      rintro e w2 ⟨hb2, ⟨r, q2, hr, rfl⟩ | ⟨n, kk, zz, hr, rfl⟩⟩
      · have HM2 : Hid (pList l = aheadR (acc ++ [r]) (pMany (m - (k + 1)) q2)) := by rw [Hid, HM.out, show m - k = (m - (k + 1)) + 1 from by omega, many_ok hr]
        have HQ2 : Hid (q2 <:+ s.data.toList) := (pNext_suffix hr).trans HQ.out
        clear HM HQ HN hr
        have hk3 : ∀ o, Kept (fun _ => False) wr (w2.alloc o) := fun o => (Kept.of_below hb2 _).alloc o
        have kc3 : ∀ o, (w2.alloc o).cell? ⟨w.heap.size + 1, 3, none⟩ = some (.slice ao k cp) := fun o => (hk3 o).cell' c3 (fun e => e)
        have hz2 := hb2.size
        have hown2 := (Kept.of_below hb2 (fun _ => False)).owns hown (fun j _ e => e)
        obtain ⟨rk, rt, rn⟩ := r
        simp only at *
        generalize hR : (⟨rt.toArray⟩ : ByteArray) = R at *
        go_wp2_with (at_builtin; refine wpList_append_lies _ rfl _ _ 22 rfl (w.heap.size + 2) 24 i0 (.agg #[.int .i64 0, .string ⟨#[]⟩, .int .i64 0, .slice none 0 0]) 4 56 Tryd.underlying22 hi hz0 hz1' hz2' rfl (by decide) (.slice ao k cp) k (onesRow acc) rfl ((hown2.alloc _).alloc _) ⟨w2.heap.size + 1, 0, none⟩ 1 1 [.int .i64 rk, .string R, .int .i64 rn, .slice none 0 0] rfl rfl ?c1 ?c2 (by decide) ?c3 ?c4 ?c5 (w2.heap.size + 2) ?c6 ?_)
        case c1 =>
          intro j u hj
          match j, hj with
          | 0, hj => simp at hj; subst hj; simp [Addr.add, go_sem]
          | 1, hj => simp at hj; subst hj; simp [Addr.add, go_sem]
          | 2, hj => simp at hj; subst hj; simp [Addr.add, go_sem]
          | 3, hj => simp at hj; subst hj; simp [Addr.add, go_sem]
          | _ + 4, hj => simp at hj
        case c2 =>
          intro u hu
          simp at hu
          rcases hu with rfl | rfl | rfl | rfl <;> rfl
        case c3 => unfold maxLen; omega
        case c4 => omega
        case c5 => simp; omega
        case c6 => simp
        intro g cap w4 hown4 hgrow _ _
        subst hR
        have hon : onesRow acc ++ [Value.int .i64 rk, .string ⟨rt.toArray⟩, .int .i64 rn, .slice none 0 0] = onesRow (acc ++ [⟨rk, rt, rn⟩]) := by rw [onesRow_snoc]; rfl
        rw [hon] at hown4
        have hk4 : Kept (fun j => w.heap.size + 2 ≤ j) wr w4 := ((((Kept.of_below hb2 _).alloc _).alloc _).grown hgrow (fun j hj => .inl (hown.lt j hj).1))
        have d0 : w4.cell? ⟨w.heap.size + 1, 0, none⟩ = some (.int .i64 6) := hk4.cell' c0 (by simp)
        have d1 : w4.cell? ⟨w.heap.size + 1, 1, none⟩ = some (.string ⟨#[]⟩) := hk4.cell' c1 (by simp)
        have d2 : w4.cell? ⟨w.heap.size + 1, 2, none⟩ = some (.int .i64 0) := hk4.cell' c2 (by simp)
        have d3 : w4.cell? ⟨w.heap.size + 1, 3, none⟩ = some (.slice ao k cp) := hk4.cell' c3 (by simp)
        have df : w4.frozen? ⟨w.heap.size + 1, 3, none⟩ = false := (hk4.frozen (p := ⟨w.heap.size + 1, 3, none⟩) hwr (by simp)).trans f3
        have HB4 := hide ((hk4.block w.heap.size (by omega) (fun e => by omega)).trans HB0.out)
        have hb4 : Below w.heap.size w w4 := hbr.trans (hk4.below (by omega) (fun j e => by omega))
        clear hk4 hgrow hown hown2 c0 c1 c2 c3 f3 hbr hb2 hk3 kc3 HB0
        go_wp2_with fail
        go_roundw
        case rel =>
          refine ⟨k + 1, acc ++ [⟨rk, rt, rn⟩], q2, _, by omega, by go_num, by simp [hacc], rfl, HQ2, ?_, ?_, ?_, ?_, World.cell?_setCell_same _ _ _ d3, by simp [df], ?_, hb4.setCell (p := ⟨w.heap.size + 1, 3, none⟩) (by simp) _, HM2⟩
          · rw [Hid, ((Kept.refl (one (w.heap.size + 1)) w4).set1 3 _).block w.heap.size (by have := World.block_lt_of_cell? _ _ d0; simp only at this; omega) (fun e => by simp only [one] at e; omega)]; exact HB4.out
          · rw [World.cell?_setCell_other _ _ _ _ (by simp)]; exact d0
          · rw [World.cell?_setCell_other _ _ _ _ (by simp)]; exact d1
          · rw [World.cell?_setCell_other _ _ _ _ (by simp)]; exact d2
          · exact ((Kept.refl (one (w.heap.size + 1)) w4).set1 3 _).owns hown4 (fun j hj e => by have := (hown4.lt j hj).1; simp only [one] at e; omega)
        case measure => simp [intOf]; omega
      · have HM2 : Hid (pList l = .error n) := by rw [Hid, HM.out, show m - k = (m - k - 1) + 1 from by omega, many_err hr]
        clear HM HQ HN hr
        have hz2 := hb2.size
        have hb1 : Below w.heap.size w (w2.alloc (.cells #[.int .i64 kk, .string ⟨#[]⟩, .int .i64 0, .slice none 0 0] 24)) := (hbr.trans (hb2.mono (by omega))).alloc (by omega) _
        have hk3 : ∀ o, Kept (fun _ => False) wr (w2.alloc o) := fun o => (Kept.of_below hb2 _).alloc o
        have d0 := fun o => (hk3 o).cell' c0 (fun e => e)
        have d1 := fun o => (hk3 o).cell' c1 (fun e => e)
        have d2 := fun o => (hk3 o).cell' c2 (fun e => e)
        have d3 := fun o => (hk3 o).cell' c3 (fun e => e)
        have hB0 := fun o => ((hk3 o).block w.heap.size (by omega) (fun e => e)).trans HB0.out
        have e0 := fun o => (four_of (hB0 o)).c0
        have e1 := fun o => (four_of (hB0 o)).c1
        have e2 := fun o => (four_of (hB0 o)).c2
        have e3 := fun o => (four_of (hB0 o)).c3
        have g0 := fun o => (four_of (hB0 o)).f0
        have g1 := fun o => (four_of (hB0 o)).f1
        have g2 := fun o => (four_of (hB0 o)).f2
        have g3 := fun o => (four_of (hB0 o)).f3
        clear c0 c1 c2 c3 f3 HB0 hk3 hown hbr hb2
        have HB0 := hide (hB0 (.cells #[.int .i64 kk, .string ⟨#[]⟩, .int .i64 0, .slice none 0 0] 24))
        clear hB0
        go_wp2_with fail
        clear e0 e1 e2 e3 g0 g1 g2 g3 d0 d1 d2 d3
        generalize hWA : w2.alloc (.cells #[.int .i64 kk, .string ⟨#[]⟩, .int .i64 0, .slice none 0 0] 24) = w1 at *
        have hh2 := put4_heap HB0.out (.int .i64 6) (.string ⟨#[]⟩) (.int .i64 0) (.slice ao k cp)
        have hk2 := put4_below hb1 (Nat.le_refl _) (.int .i64 6) (.string ⟨#[]⟩) (.int .i64 0) (.slice ao k cp)
        generalize (((w1.setCell ⟨w.heap.size, 0, none⟩ (.int .i64 6)).setCell ⟨w.heap.size, 1, none⟩ (.string ⟨#[]⟩)).setCell ⟨w.heap.size, 2, none⟩ (.int .i64 0)).setCell ⟨w.heap.size, 3, none⟩ (.slice ao k cp) = w2 at *
        obtain ⟨k0, k1, k2, k3, e0, e1, e2, e3⟩ := four_of hh2
        exact bodyPost_ret (v := .tuple #[.agg #[.int .i64 6, .string ⟨#[]⟩, .int .i64 0, .slice ao k cp], .int .i64 p, .bool false]) (by simp [results, Tryd.results29, go_sem, k0, k1, k2, k3]) rfl (ManyPost.bad HM2.out hk2 6 _ _ _ _)
    · have hkk : k = m := by omega
      subst hkk
      have HM2 : Hid (pList l = .ok (acc, q')) := by rw [Hid, HM.out, Nat.sub_self]; simp [pMany, aheadR]
      clear HM
      generalize htt : s.size - q'.length = tt at *
      obtain ⟨e0, e1, e2, e3, g0, g1, g2, g3⟩ := four_of HB0.out
      go_wp2_with fail
      have hh2 := put4_heap HB0.out (.int .i64 6) (.string ⟨#[]⟩) (.int .i64 0) (.slice ao k cp)
      have hk5 := put4_below hbr (Nat.le_refl _) (.int .i64 6) (.string ⟨#[]⟩) (.int .i64 0) (.slice ao k cp)
      have hk6 := put4_kept (Kept.refl (one w.heap.size) wr) (.inr rfl) (.int .i64 6) (.string ⟨#[]⟩) (.int .i64 0) (.slice ao k cp)
      clear c0 c1 c2 c3 f3 e0 e1 e2 e3 g0 g1 g2 g3
      generalize (((wr.setCell ⟨w.heap.size, 0, none⟩ (.int .i64 6)).setCell ⟨w.heap.size, 1, none⟩ (.string ⟨#[]⟩)).setCell ⟨w.heap.size, 2, none⟩ (.int .i64 0)).setCell ⟨w.heap.size, 3, none⟩ (.slice ao k cp) = w4 at *
      obtain ⟨k0, k1, k2, k3, f0, f1, f2, f3⟩ := four_of hh2
      have hown4 := hk6.owns hown (fun j hj e => by have := (hown.lt j hj).1; simp only [one] at e; omega)
      refine bodyPost_ret (v := .tuple #[.agg #[.int .i64 6, .string ⟨#[]⟩, .int .i64 0, .slice ao k cp], .int .i64 tt, .bool true]) (by simp [results, Tryd.results29, go_sem, k0, k1, k2, k3]) rfl ⟨hk5, fun rs q0 hx => ?_, fun n hx => by rw [HM2.out] at hx; simp at hx⟩
      rw [HM2.out] at hx
      simp at hx
      obtain ⟨rfl, rfl⟩ := hx
      subst hacc
      exact ⟨_, by rw [htt], ownsRow_low hown4 (by omega)⟩

/-- the reference reads a list as the program does -/
theorem refMany (s : ByteArray) (c : UInt8) (l : List UInt8) (p : Nat) (w : World) (h : Here s c l p) (hs : s.size ≤ 281474976710656) (hc : c.toNat = 42) :
    Calls Tryd.prog 29 #[.string s, .int .i64 (p : Int), .bool true] w (ManyPost s l w) := by
  cases hp : pLine l with
  | error n => exact refM_line s c l p w h hs n hp
  | ok y =>
    obtain ⟨x, q⟩ := y
    cases hv : pInt x with
    | none => exact refM_nan s c l p w h hs x q hp hv hc
    | some v =>
      obtain ⟨_, hv1, hv2⟩ := pInt_inv hv
      by_cases hm0 : v < 0
      · exact refM_neg s c l p w h hs x q hp v hv hm0 hc
      · obtain ⟨m, rfl⟩ := Int.eq_ofNat_of_zero_le (show 0 ≤ v by omega)
        exact refM_list s c l p w h hs x q hp m hv (by omega) hc
end Go.Proofs.YtolpmaapdkhigaaDoor
