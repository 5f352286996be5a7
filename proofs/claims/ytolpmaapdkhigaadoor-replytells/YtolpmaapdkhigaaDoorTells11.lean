/- WALKS of the reference's reading of one reply: bytes, and what is none. -/
import Derived.Test.YtolpmaapdkhigaaDoorTells10
import Derived.Handy
namespace Go.Proofs.YtolpmaapdkhigaaDoor
open Go.RowKit

theorem pSingle_bytes {c : UInt8} {l : List UInt8} (hc : c.toNat = 36) : pSingle c l = pBytes l := by
  rw [pSingle, if_neg (fun e => by subst e; simp at hc), if_neg (fun e => by subst e; simp at hc), if_neg (fun e => by subst e; simp at hc), if_pos (UInt8.toNat_inj.mp (by simpa using hc))]
theorem pNumber_none {l x q : List UInt8} (hp : pLine l = .ok (x, q)) (hv : pInt x = none) : pNumber l = .error 1 := by
  rw [pNumber, hp]
  simp only [hv]
theorem pNumber_some {l x q : List UInt8} {v : Int} (hp : pLine l = .ok (x, q)) (hv : pInt x = some v) : pNumber l = .ok (v, q) := by
  rw [pNumber, hp]
  simp only [hv]
theorem pSingle_other {c : UInt8} {l : List UInt8} (h1 : ¬ c.toNat = 43) (h2 : ¬ c.toNat = 45) (h3 : ¬ c.toNat = 58) (h4 : ¬ c.toNat = 36) : pSingle c l = .error 1 := by
  rw [pSingle, if_neg (fun e => by subst e; simp at h1), if_neg (fun e => by subst e; simp at h2), if_neg (fun e => by subst e; simp at h3), if_neg (fun e => by subst e; simp at h4)]

set_option maxRecDepth 100000 in
set_option maxHeartbeats 4000000 in
theorem refB_nan (s : ByteArray) (c : UInt8) (l : List UInt8) (p : Nat) (b : Bool) (w : World) (h : Here s c l p) (hs : s.size ≤ 281474976710656) (x q : List UInt8) (hp : pLine l = .ok (x, q)) (hv : pInt x = none) (hc : c.toNat = 36) :
    Calls Tryd.prog 29 #[.string s, .int .i64 (p : Int), .bool b] w (SinglePost s c l w) := by
  have HP := hide hp
  have HL : Hid (∀ W, Calls Tryd.prog 46 #[.string s, .int .i64 ((p : Int) + 1)] W fun e w' => e = .returned (.tuple #[.string ⟨x.toArray⟩, .int .i64 ((s.size - q.length : Nat) : Int), .bool true]) ∧ w' = W) := fun W => by
    rw [← lineRet_ok hp]
    exact line_here h hs W
  obtain ⟨hlen, hqs⟩ := pLine_len l x q hp
  clear hp
  have HI : Hid (∀ W, Calls Tryd.prog 47 #[.string ⟨x.toArray⟩] W fun e w' => e = .returned (.tuple #[.int .i64 0, .bool false]) ∧ Below W.heap.size W w') := fun W => by
    have := intOf_any ⟨x.toArray⟩ W
    rw [toList_mk, hv] at this
    exact this
  have HM : Hid (pSingle c l = .error 1) := by
    rw [Hid, pSingle_bytes hc, pBytes, pNumber_none HP.out hv]
  generalize hz : s.size - q.length = z at *
  generalize hX : (⟨x.toArray⟩ : ByteArray) = X at *
  have h1 := h.lt
  have h2 := h.size
  have hg : s[p].toNat = c.toNat := by rw [h.get h1]
  go_enter Tryd.func29, Tryd.ntmps29
  go_wp2_with fail
  refine (HL.out _).mono ?_
  rintro e w1 ⟨rfl, rfl⟩
  go_wp2_with fail
  refine (HI.out _).mono ?_
  rintro e w1 ⟨rfl, hb0⟩
  obtain ⟨hB0, hB1, hb1, hz1⟩ := rep_begin hb0
  clear hb0 HI HL
  obtain ⟨c0, c1, c2, c3, f0, f1, f2, f3⟩ := four_of hB0
  obtain ⟨d0, d1, d2, d3, g0, g1, g2, g3⟩ := four_of hB1
  have HB0 := hide hB0
  clear hB0 hB1
  go_wp2_with fail
  clear c0 c1 c2 c3 f0 f1 f2 f3 d0 d1 d2 d3 g0 g1 g2 g3
  have hh2 := put4_heap HB0.out (.int .i64 0) (.string ⟨#[]⟩) (.int .i64 0) (.slice none 0 0)
  have hk2 := put4_below hb1 (Nat.le_refl _) (.int .i64 0) (.string ⟨#[]⟩) (.int .i64 0) (.slice none 0 0)
  generalize (((w1.setCell ⟨w.heap.size, 0, none⟩ (.int .i64 0)).setCell ⟨w.heap.size, 1, none⟩ (.string ⟨#[]⟩)).setCell ⟨w.heap.size, 2, none⟩ (.int .i64 0)).setCell ⟨w.heap.size, 3, none⟩ (.slice none 0 0) = w2 at *
  obtain ⟨k0, k1, k2, k3, e0, e1, e2, e3⟩ := four_of hh2
  exact bodyPost_ret (v := .tuple #[.agg #[.int .i64 0, .string ⟨#[]⟩, .int .i64 0, .slice none 0 0], .int .i64 p, .bool false]) (by simp [results, Tryd.results29, go_sem, k0, k1, k2, k3]) rfl (SinglePost.bad HM.out hk2 0 _)

set_option maxRecDepth 100000 in
set_option maxHeartbeats 4000000 in
theorem refB_none (s : ByteArray) (c : UInt8) (l : List UInt8) (p : Nat) (b : Bool) (w : World) (h : Here s c l p) (hs : s.size ≤ 281474976710656) (x q : List UInt8) (hp : pLine l = .ok (x, q)) (hv : pInt x = some (-1)) (hc : c.toNat = 36) :
    Calls Tryd.prog 29 #[.string s, .int .i64 (p : Int), .bool b] w (SinglePost s c l w) := by
  have HP := hide hp
  have HL : Hid (∀ W, Calls Tryd.prog 46 #[.string s, .int .i64 ((p : Int) + 1)] W fun e w' => e = .returned (.tuple #[.string ⟨x.toArray⟩, .int .i64 ((s.size - q.length : Nat) : Int), .bool true]) ∧ w' = W) := fun W => by
    rw [← lineRet_ok hp]
    exact line_here h hs W
  obtain ⟨hlen, hqs⟩ := pLine_len l x q hp
  clear hp
  have HI : Hid (∀ W, Calls Tryd.prog 47 #[.string ⟨x.toArray⟩] W fun e w' => e = .returned (.tuple #[.int .i64 (-1), .bool true]) ∧ Below W.heap.size W w') := fun W => by
    have := intOf_any ⟨x.toArray⟩ W
    rw [toList_mk, hv] at this
    exact this
  have HM : Hid (pSingle c l = .ok (⟨5, [], 0⟩, q)) := by
    rw [Hid, pSingle_bytes hc, pBytes, pNumber_some HP.out hv]
    rfl
  generalize hz : s.size - q.length = z at *
  generalize hX : (⟨x.toArray⟩ : ByteArray) = X at *
  have h1 := h.lt
  have h2 := h.size
  have hg : s[p].toNat = c.toNat := by rw [h.get h1]
  go_enter Tryd.func29, Tryd.ntmps29
  go_wp2_with fail
  refine (HL.out _).mono ?_
  rintro e w1 ⟨rfl, rfl⟩
  go_wp2_with fail
  refine (HI.out _).mono ?_
  rintro e w1 ⟨rfl, hb0⟩
  obtain ⟨hB0, hB1, hb1, hz1⟩ := rep_begin hb0
  clear hb0 HI HL
  obtain ⟨c0, c1, c2, c3, f0, f1, f2, f3⟩ := four_of hB0
  obtain ⟨d0, d1, d2, d3, g0, g1, g2, g3⟩ := four_of hB1
  have HB0 := hide hB0
  clear hB0 hB1
  go_wp2_with fail
  clear c0 c1 c2 c3 f0 f1 f2 f3 d0 d1 d2 d3 g0 g1 g2 g3
  have hh2 := put4_heap HB0.out (.int .i64 5) (.string ⟨#[]⟩) (.int .i64 0) (.slice none 0 0)
  have hk2 := put4_below hb1 (Nat.le_refl _) (.int .i64 5) (.string ⟨#[]⟩) (.int .i64 0) (.slice none 0 0)
  generalize (((w1.setCell ⟨w.heap.size, 0, none⟩ (.int .i64 5)).setCell ⟨w.heap.size, 1, none⟩ (.string ⟨#[]⟩)).setCell ⟨w.heap.size, 2, none⟩ (.int .i64 0)).setCell ⟨w.heap.size, 3, none⟩ (.slice none 0 0) = w2 at *
  obtain ⟨k0, k1, k2, k3, e0, e1, e2, e3⟩ := four_of hh2
  exact bodyPost_ret (v := .tuple #[.agg #[.int .i64 5, .string ⟨#[]⟩, .int .i64 0, .slice none 0 0], .int .i64 z, .bool true]) (by simp [results, Tryd.results29, go_sem, k0, k1, k2, k3]) rfl (SinglePost.good HM.out hk2 (by rw [hz]))

set_option maxRecDepth 100000 in
set_option maxHeartbeats 4000000 in
theorem refB_neg (s : ByteArray) (c : UInt8) (l : List UInt8) (p : Nat) (b : Bool) (w : World) (h : Here s c l p) (hs : s.size ≤ 281474976710656) (x q : List UInt8) (hp : pLine l = .ok (x, q)) (v : Int) (hv : pInt x = some v) (hv1 : ¬ v = -1) (hv0 : v < 0) (hc : c.toNat = 36) :
    Calls Tryd.prog 29 #[.string s, .int .i64 (p : Int), .bool b] w (SinglePost s c l w) := by
  have HP := hide hp
  have HL : Hid (∀ W, Calls Tryd.prog 46 #[.string s, .int .i64 ((p : Int) + 1)] W fun e w' => e = .returned (.tuple #[.string ⟨x.toArray⟩, .int .i64 ((s.size - q.length : Nat) : Int), .bool true]) ∧ w' = W) := fun W => by
    rw [← lineRet_ok hp]
    exact line_here h hs W
  obtain ⟨hlen, hqs⟩ := pLine_len l x q hp
  clear hp
  have HI : Hid (∀ W, Calls Tryd.prog 47 #[.string ⟨x.toArray⟩] W fun e w' => e = .returned (.tuple #[.int .i64 v, .bool true]) ∧ Below W.heap.size W w') := fun W => by
    have := intOf_any ⟨x.toArray⟩ W
    rw [toList_mk, hv] at this
    exact this
  have HM : Hid (pSingle c l = .error 1) := by
    rw [Hid, pSingle_bytes hc, pBytes, pNumber_some HP.out hv]
    simp only
    rw [if_neg hv1, if_pos hv0]
  generalize hz : s.size - q.length = z at *
  generalize hX : (⟨x.toArray⟩ : ByteArray) = X at *
  have h1 := h.lt
  have h2 := h.size
  have hg : s[p].toNat = c.toNat := by rw [h.get h1]
  go_enter Tryd.func29, Tryd.ntmps29
  go_wp2_with fail
  refine (HL.out _).mono ?_
  rintro e w1 ⟨rfl, rfl⟩
  go_wp2_with fail
  refine (HI.out _).mono ?_
  rintro e w1 ⟨rfl, hb0⟩
  obtain ⟨hB0, hB1, hb1, hz1⟩ := rep_begin hb0
  clear hb0 HI HL
  obtain ⟨c0, c1, c2, c3, f0, f1, f2, f3⟩ := four_of hB0
  obtain ⟨d0, d1, d2, d3, g0, g1, g2, g3⟩ := four_of hB1
  have HB0 := hide hB0
  clear hB0 hB1
  go_wp2_with fail
  clear c0 c1 c2 c3 f0 f1 f2 f3 d0 d1 d2 d3 g0 g1 g2 g3
  have hh2 := put4_heap HB0.out (.int .i64 0) (.string ⟨#[]⟩) (.int .i64 0) (.slice none 0 0)
  have hk2 := put4_below hb1 (Nat.le_refl _) (.int .i64 0) (.string ⟨#[]⟩) (.int .i64 0) (.slice none 0 0)
  generalize (((w1.setCell ⟨w.heap.size, 0, none⟩ (.int .i64 0)).setCell ⟨w.heap.size, 1, none⟩ (.string ⟨#[]⟩)).setCell ⟨w.heap.size, 2, none⟩ (.int .i64 0)).setCell ⟨w.heap.size, 3, none⟩ (.slice none 0 0) = w2 at *
  obtain ⟨k0, k1, k2, k3, e0, e1, e2, e3⟩ := four_of hh2
  exact bodyPost_ret (v := .tuple #[.agg #[.int .i64 0, .string ⟨#[]⟩, .int .i64 0, .slice none 0 0], .int .i64 p, .bool false]) (by simp [results, Tryd.results29, go_sem, k0, k1, k2, k3]) rfl (SinglePost.bad HM.out hk2 0 _)

set_option maxRecDepth 100000 in
set_option maxHeartbeats 4000000 in
theorem refB_short (s : ByteArray) (c : UInt8) (l : List UInt8) (p : Nat) (b : Bool) (w : World) (h : Here s c l p) (hs : s.size ≤ 281474976710656) (x q : List UInt8) (hp : pLine l = .ok (x, q)) (m : Nat) (hv : pInt x = some (m : Int)) (hm9 : m ≤ 999999999) (hsh : q.length < m + 2) (hc : c.toNat = 36) :
    Calls Tryd.prog 29 #[.string s, .int .i64 (p : Int), .bool b] w (SinglePost s c l w) := by
  have HP := hide hp
  have HL : Hid (∀ W, Calls Tryd.prog 46 #[.string s, .int .i64 ((p : Int) + 1)] W fun e w' => e = .returned (.tuple #[.string ⟨x.toArray⟩, .int .i64 ((s.size - q.length : Nat) : Int), .bool true]) ∧ w' = W) := fun W => by
    rw [← lineRet_ok hp]
    exact line_here h hs W
  obtain ⟨hlen, hqs⟩ := pLine_len l x q hp
  clear hp
  have HI : Hid (∀ W, Calls Tryd.prog 47 #[.string ⟨x.toArray⟩] W fun e w' => e = .returned (.tuple #[.int .i64 (m : Int), .bool true]) ∧ Below W.heap.size W w') := fun W => by
    have := intOf_any ⟨x.toArray⟩ W
    rw [toList_mk, hv] at this
    exact this
  have HM : Hid (∃ n, pSingle c l = .error n) := by
    rw [Hid, pSingle_bytes hc, pBytes, pNumber_some HP.out hv]
    simp only
    rw [if_neg (by omega), if_neg (by omega)]
    split
    · exact ⟨_, rfl⟩
    · rename_i hle
      rw [Int.toNat_natCast] at hle ⊢
      match hd : q.drop m with
      | [] => exact ⟨_, rfl⟩
      | [a] =>
        by_cases ha : a = 13
        · subst ha
          exact ⟨8, rfl⟩
        · exact ⟨1, by simp [pMust, ha]⟩
      | a :: b :: r =>
        have := congrArg List.length hd
        rw [List.length_drop] at this
        simp at this
        omega
  obtain ⟨nm, hnm⟩ := HM.out
  clear HM
  have HM := hide hnm
  clear hnm
  have hzz : ((s.size : Int) - ((s.size - q.length : Nat) : Int)) - 2 < m := by omega
  generalize hz : s.size - q.length = z at *
  generalize hX : (⟨x.toArray⟩ : ByteArray) = X at *
  have h1 := h.lt
  have h2 := h.size
  have hg : s[p].toNat = c.toNat := by rw [h.get h1]
  go_enter Tryd.func29, Tryd.ntmps29
  go_wp2_with fail
  refine (HL.out _).mono ?_
  rintro e w1 ⟨rfl, rfl⟩
  go_wp2_with fail
  refine (HI.out _).mono ?_
  rintro e w1 ⟨rfl, hb0⟩
  obtain ⟨hB0, hB1, hb1, hz1⟩ := rep_begin hb0
  clear hb0 HI HL
  obtain ⟨c0, c1, c2, c3, f0, f1, f2, f3⟩ := four_of hB0
  obtain ⟨d0, d1, d2, d3, g0, g1, g2, g3⟩ := four_of hB1
  have HB0 := hide hB0
  clear hB0 hB1
  go_wp2_with fail
  clear c0 c1 c2 c3 f0 f1 f2 f3 d0 d1 d2 d3 g0 g1 g2 g3
  have hh2 := put4_heap HB0.out (.int .i64 0) (.string ⟨#[]⟩) (.int .i64 0) (.slice none 0 0)
  have hk2 := put4_below hb1 (Nat.le_refl _) (.int .i64 0) (.string ⟨#[]⟩) (.int .i64 0) (.slice none 0 0)
  generalize (((w1.setCell ⟨w.heap.size, 0, none⟩ (.int .i64 0)).setCell ⟨w.heap.size, 1, none⟩ (.string ⟨#[]⟩)).setCell ⟨w.heap.size, 2, none⟩ (.int .i64 0)).setCell ⟨w.heap.size, 3, none⟩ (.slice none 0 0) = w2 at *
  obtain ⟨k0, k1, k2, k3, e0, e1, e2, e3⟩ := four_of hh2
  exact bodyPost_ret (v := .tuple #[.agg #[.int .i64 0, .string ⟨#[]⟩, .int .i64 0, .slice none 0 0], .int .i64 p, .bool false]) (by simp [results, Tryd.results29, go_sem, k0, k1, k2, k3]) rfl (SinglePost.bad HM.out hk2 0 _)

set_option maxRecDepth 100000 in
set_option maxHeartbeats 4000000 in
theorem refB_bad0 (s : ByteArray) (c : UInt8) (l : List UInt8) (p : Nat) (b : Bool) (w : World) (h : Here s c l p) (hs : s.size ≤ 281474976710656) (x q : List UInt8) (hp : pLine l = .ok (x, q)) (m : Nat) (hv : pInt x = some (m : Int)) (hm9 : m ≤ 999999999) (hsh : m + 2 ≤ q.length) (hc : c.toNat = 36) (hx0 : ¬ (q[m]'(by omega)).toNat = 13) :
    Calls Tryd.prog 29 #[.string s, .int .i64 (p : Int), .bool b] w (SinglePost s c l w) := by
  have HP := hide hp
  have HL : Hid (∀ W, Calls Tryd.prog 46 #[.string s, .int .i64 ((p : Int) + 1)] W fun e w' => e = .returned (.tuple #[.string ⟨x.toArray⟩, .int .i64 ((s.size - q.length : Nat) : Int), .bool true]) ∧ w' = W) := fun W => by
    rw [← lineRet_ok hp]
    exact line_here h hs W
  obtain ⟨hlen, hqs⟩ := pLine_len l x q hp
  clear hp
  have HI : Hid (∀ W, Calls Tryd.prog 47 #[.string ⟨x.toArray⟩] W fun e w' => e = .returned (.tuple #[.int .i64 (m : Int), .bool true]) ∧ Below W.heap.size W w') := fun W => by
    have := intOf_any ⟨x.toArray⟩ W
    rw [toList_mk, hv] at this
    exact this
  have hqss := hqs.trans h.suf
  have hgm := suffix_get (s := s) hqss m (by omega)
  have hgm1 := suffix_get (s := s) hqss (m + 1) (by omega)
  have hsl := slice_part (s := s) hqss m (by omega)
  have hqd : q.drop m = q[m] :: q[m + 1] :: q.drop (m + 2) := by rw [List.drop_eq_getElem_cons (by omega), List.drop_eq_getElem_cons (by omega)]
  have hql : q.length ≤ s.size := by rw [← size_list]; exact hqss.length_le
  have hx : ¬ (q[m].toNat = 13 ∧ q[m + 1].toNat = 10) := fun e => hx0 e.1
  have HM : Hid (∃ n, pSingle c l = .error n) := by
    rw [Hid, pSingle_bytes hc, pBytes, pNumber_some HP.out hv]
    simp only
    rw [if_neg (by omega), if_neg (by omega), if_neg (by omega), Int.toNat_natCast, hqd]
    by_cases ha : q[m] = 13
    · have hb : ¬ q[m + 1] = 10 := fun e => hx ⟨by rw [ha]; rfl, by rw [e]; rfl⟩
      exact ⟨1, by simp [pMust, ha, hb]⟩
    · exact ⟨1, by simp [pMust, ha]⟩
  obtain ⟨nm, hnm⟩ := HM.out
  clear HM
  have HM := hide hnm
  clear hnm hqd
  clear hx
  generalize hz : s.size - q.length = z at *
  generalize hX : (⟨x.toArray⟩ : ByteArray) = X at *
  have i0 : z + m < s.size := by omega
  have i1 : z + m + 1 < s.size := by omega
  have g0 : s[z + m] = q[m] := hgm i0
  have g1 : s[z + m + 1] = q[m + 1] := hgm1 i1
  rw [← g0] at hx0
  clear g0 g1 hgm hgm1 hsl hqss hqs
  have h1 := h.lt
  have h2 := h.size
  have hg : s[p].toNat = c.toNat := by rw [h.get h1]
  go_enter Tryd.func29, Tryd.ntmps29
  go_wp2_with fail
  refine (HL.out _).mono ?_
  rintro e w1 ⟨rfl, rfl⟩
  go_wp2_with fail
  refine (HI.out _).mono ?_
  rintro e w1 ⟨rfl, hb0⟩
  obtain ⟨hB0, hB1, hb1, hz1⟩ := rep_begin hb0
  clear hb0 HI HL
  obtain ⟨c0, c1, c2, c3, f0, f1, f2, f3⟩ := four_of hB0
  obtain ⟨d0, d1, d2, d3, g0, g1, g2, g3⟩ := four_of hB1
  have HB0 := hide hB0
  clear hB0 hB1
  go_wp2_with fail
  clear c0 c1 c2 c3 f0 f1 f2 f3 d0 d1 d2 d3 g0 g1 g2 g3
  have hh2 := put4_heap HB0.out (.int .i64 0) (.string ⟨#[]⟩) (.int .i64 0) (.slice none 0 0)
  have hk2 := put4_below hb1 (Nat.le_refl _) (.int .i64 0) (.string ⟨#[]⟩) (.int .i64 0) (.slice none 0 0)
  generalize (((w1.setCell ⟨w.heap.size, 0, none⟩ (.int .i64 0)).setCell ⟨w.heap.size, 1, none⟩ (.string ⟨#[]⟩)).setCell ⟨w.heap.size, 2, none⟩ (.int .i64 0)).setCell ⟨w.heap.size, 3, none⟩ (.slice none 0 0) = w2 at *
  obtain ⟨k0, k1, k2, k3, e0, e1, e2, e3⟩ := four_of hh2
  exact bodyPost_ret (v := .tuple #[.agg #[.int .i64 0, .string ⟨#[]⟩, .int .i64 0, .slice none 0 0], .int .i64 p, .bool false]) (by simp [results, Tryd.results29, go_sem, k0, k1, k2, k3]) rfl (SinglePost.bad HM.out hk2 0 _)

set_option maxRecDepth 100000 in
set_option maxHeartbeats 4000000 in
theorem refB_bad1 (s : ByteArray) (c : UInt8) (l : List UInt8) (p : Nat) (b : Bool) (w : World) (h : Here s c l p) (hs : s.size ≤ 281474976710656) (x q : List UInt8) (hp : pLine l = .ok (x, q)) (m : Nat) (hv : pInt x = some (m : Int)) (hm9 : m ≤ 999999999) (hsh : m + 2 ≤ q.length) (hc : c.toNat = 36) (hx0 : (q[m]'(by omega)).toNat = 13) (hx1 : ¬ (q[m + 1]'(by omega)).toNat = 10) :
    Calls Tryd.prog 29 #[.string s, .int .i64 (p : Int), .bool b] w (SinglePost s c l w) := by
  have HP := hide hp
  have HL : Hid (∀ W, Calls Tryd.prog 46 #[.string s, .int .i64 ((p : Int) + 1)] W fun e w' => e = .returned (.tuple #[.string ⟨x.toArray⟩, .int .i64 ((s.size - q.length : Nat) : Int), .bool true]) ∧ w' = W) := fun W => by
    rw [← lineRet_ok hp]
    exact line_here h hs W
  obtain ⟨hlen, hqs⟩ := pLine_len l x q hp
  clear hp
  have HI : Hid (∀ W, Calls Tryd.prog 47 #[.string ⟨x.toArray⟩] W fun e w' => e = .returned (.tuple #[.int .i64 (m : Int), .bool true]) ∧ Below W.heap.size W w') := fun W => by
    have := intOf_any ⟨x.toArray⟩ W
    rw [toList_mk, hv] at this
    exact this
  have hqss := hqs.trans h.suf
  have hgm := suffix_get (s := s) hqss m (by omega)
  have hgm1 := suffix_get (s := s) hqss (m + 1) (by omega)
  have hsl := slice_part (s := s) hqss m (by omega)
  have hqd : q.drop m = q[m] :: q[m + 1] :: q.drop (m + 2) := by rw [List.drop_eq_getElem_cons (by omega), List.drop_eq_getElem_cons (by omega)]
  have hql : q.length ≤ s.size := by rw [← size_list]; exact hqss.length_le
  have hx : ¬ (q[m].toNat = 13 ∧ q[m + 1].toNat = 10) := fun e => hx1 e.2
  have HM : Hid (∃ n, pSingle c l = .error n) := by
    rw [Hid, pSingle_bytes hc, pBytes, pNumber_some HP.out hv]
    simp only
    rw [if_neg (by omega), if_neg (by omega), if_neg (by omega), Int.toNat_natCast, hqd]
    by_cases ha : q[m] = 13
    · have hb : ¬ q[m + 1] = 10 := fun e => hx ⟨by rw [ha]; rfl, by rw [e]; rfl⟩
      exact ⟨1, by simp [pMust, ha, hb]⟩
    · exact ⟨1, by simp [pMust, ha]⟩
  obtain ⟨nm, hnm⟩ := HM.out
  clear HM
  have HM := hide hnm
  clear hnm hqd
  clear hx
  generalize hz : s.size - q.length = z at *
  generalize hX : (⟨x.toArray⟩ : ByteArray) = X at *
  have i0 : z + m < s.size := by omega
  have i1 : z + m + 1 < s.size := by omega
  have g0 : s[z + m] = q[m] := hgm i0
  have g1 : s[z + m + 1] = q[m + 1] := hgm1 i1
  rw [← g0] at hx0
  rw [← g1] at hx1
  have hxb : (((s[z + m + 1].toNat : Nat) : Int) != 10) = true := by rw [bne_iff_ne]; omega
  have hxc : (((s[z + m + 1].toNat : Nat) : Int) == 10) = false := by rw [beq_eq_false_iff_ne]; omega
  clear g0 g1 hgm hgm1 hsl hqss hqs
  have h1 := h.lt
  have h2 := h.size
  have hg : s[p].toNat = c.toNat := by rw [h.get h1]
  go_enter Tryd.func29, Tryd.ntmps29
  go_wp2_with fail
  refine (HL.out _).mono ?_
  rintro e w1 ⟨rfl, rfl⟩
  go_wp2_with fail
  refine (HI.out _).mono ?_
  rintro e w1 ⟨rfl, hb0⟩
  obtain ⟨hB0, hB1, hb1, hz1⟩ := rep_begin hb0
  clear hb0 HI HL
  obtain ⟨c0, c1, c2, c3, f0, f1, f2, f3⟩ := four_of hB0
  obtain ⟨d0, d1, d2, d3, g0, g1, g2, g3⟩ := four_of hB1
  have HB0 := hide hB0
  clear hB0 hB1
  go_wp2_with fail
  clear c0 c1 c2 c3 f0 f1 f2 f3 d0 d1 d2 d3 g0 g1 g2 g3
  have hh2 := put4_heap HB0.out (.int .i64 0) (.string ⟨#[]⟩) (.int .i64 0) (.slice none 0 0)
  have hk2 := put4_below hb1 (Nat.le_refl _) (.int .i64 0) (.string ⟨#[]⟩) (.int .i64 0) (.slice none 0 0)
  generalize (((w1.setCell ⟨w.heap.size, 0, none⟩ (.int .i64 0)).setCell ⟨w.heap.size, 1, none⟩ (.string ⟨#[]⟩)).setCell ⟨w.heap.size, 2, none⟩ (.int .i64 0)).setCell ⟨w.heap.size, 3, none⟩ (.slice none 0 0) = w2 at *
  obtain ⟨k0, k1, k2, k3, e0, e1, e2, e3⟩ := four_of hh2
  exact bodyPost_ret (v := .tuple #[.agg #[.int .i64 0, .string ⟨#[]⟩, .int .i64 0, .slice none 0 0], .int .i64 p, .bool false]) (by simp [results, Tryd.results29, go_sem, k0, k1, k2, k3]) rfl (SinglePost.bad HM.out hk2 0 _)

set_option maxRecDepth 100000 in
set_option maxHeartbeats 4000000 in
theorem refB_good (s : ByteArray) (c : UInt8) (l : List UInt8) (p : Nat) (b : Bool) (w : World) (h : Here s c l p) (hs : s.size ≤ 281474976710656) (x q : List UInt8) (hp : pLine l = .ok (x, q)) (m : Nat) (hv : pInt x = some (m : Int)) (hm9 : m ≤ 999999999) (hsh : m + 2 ≤ q.length) (hc : c.toNat = 36) (hx0 : (q[m]'(by omega)).toNat = 13) (hx1 : (q[m + 1]'(by omega)).toNat = 10) :
    Calls Tryd.prog 29 #[.string s, .int .i64 (p : Int), .bool b] w (SinglePost s c l w) := by
  have HP := hide hp
  have HL : Hid (∀ W, Calls Tryd.prog 46 #[.string s, .int .i64 ((p : Int) + 1)] W fun e w' => e = .returned (.tuple #[.string ⟨x.toArray⟩, .int .i64 ((s.size - q.length : Nat) : Int), .bool true]) ∧ w' = W) := fun W => by
    rw [← lineRet_ok hp]
    exact line_here h hs W
  obtain ⟨hlen, hqs⟩ := pLine_len l x q hp
  clear hp
  have HI : Hid (∀ W, Calls Tryd.prog 47 #[.string ⟨x.toArray⟩] W fun e w' => e = .returned (.tuple #[.int .i64 (m : Int), .bool true]) ∧ Below W.heap.size W w') := fun W => by
    have := intOf_any ⟨x.toArray⟩ W
    rw [toList_mk, hv] at this
    exact this
  have hqss := hqs.trans h.suf
  have hgm := suffix_get (s := s) hqss m (by omega)
  have hgm1 := suffix_get (s := s) hqss (m + 1) (by omega)
  have hsl := slice_part (s := s) hqss m (by omega)
  have hqd : q.drop m = q[m] :: q[m + 1] :: q.drop (m + 2) := by rw [List.drop_eq_getElem_cons (by omega), List.drop_eq_getElem_cons (by omega)]
  have hql : q.length ≤ s.size := by rw [← size_list]; exact hqss.length_le
  have HM : Hid (pSingle c l = .ok (⟨4, q.take m, 0⟩, q.drop (m + 2))) := by
    rw [Hid, pSingle_bytes hc, pBytes, pNumber_some HP.out hv]
    simp only
    rw [if_neg (by omega), if_neg (by omega), if_neg (by omega), Int.toNat_natCast, hqd]
    have ha : q[m] = 13 := UInt8.toNat_inj.mp (by simpa using hx0)
    have hb : q[m + 1] = 10 := UInt8.toNat_inj.mp (by simpa using hx1)
    simp [pMust, ha, hb]
  have HZ : Hid (s.size - q.length + m + 2 = s.size - (q.drop (m + 2)).length) := by
    rw [Hid, List.length_drop]
    omega
  clear hqd
  generalize hY : (⟨(q.take m).toArray⟩ : ByteArray) = Y at *
  generalize hz : s.size - q.length = z at *
  generalize hX : (⟨x.toArray⟩ : ByteArray) = X at *
  have i0 : z + m < s.size := by omega
  have i1 : z + m + 1 < s.size := by omega
  have g0 : s[z + m] = q[m] := hgm i0
  have g1 : s[z + m + 1] = q[m + 1] := hgm1 i1
  rw [← g0] at hx0
  rw [← g1] at hx1
  clear g0 g1 hgm hgm1 hqss hqs
  have h1 := h.lt
  have h2 := h.size
  have hg : s[p].toNat = c.toNat := by rw [h.get h1]
  go_enter Tryd.func29, Tryd.ntmps29
  go_wp2_with fail
  refine (HL.out _).mono ?_
  rintro e w1 ⟨rfl, rfl⟩
  go_wp2_with fail
  refine (HI.out _).mono ?_
  rintro e w1 ⟨rfl, hb0⟩
  obtain ⟨hB0, hB1, hb1, hz1⟩ := rep_begin hb0
  clear hb0 HI HL
  obtain ⟨c0, c1, c2, c3, f0, f1, f2, f3⟩ := four_of hB0
  obtain ⟨d0, d1, d2, d3, g0, g1, g2, g3⟩ := four_of hB1
  have HB0 := hide hB0
  clear hB0 hB1
  go_wp2_with fail
  clear c0 c1 c2 c3 f0 f1 f2 f3 d0 d1 d2 d3 g0 g1 g2 g3
  have hh2 := put4_heap HB0.out (.int .i64 4) (.string Y) (.int .i64 0) (.slice none 0 0)
  have hk2 := put4_below hb1 (Nat.le_refl _) (.int .i64 4) (.string Y) (.int .i64 0) (.slice none 0 0)
  generalize (((w1.setCell ⟨w.heap.size, 0, none⟩ (.int .i64 4)).setCell ⟨w.heap.size, 1, none⟩ (.string Y)).setCell ⟨w.heap.size, 2, none⟩ (.int .i64 0)).setCell ⟨w.heap.size, 3, none⟩ (.slice none 0 0) = w2 at *
  obtain ⟨k0, k1, k2, k3, e0, e1, e2, e3⟩ := four_of hh2
  exact bodyPost_ret (v := .tuple #[.agg #[.int .i64 4, .string Y, .int .i64 0, .slice none 0 0], .int .i64 ((z : Int) + m + 2), .bool true]) (by simp [results, Tryd.results29, go_sem, k0, k1, k2, k3]) rfl (by subst hY; exact SinglePost.good HM.out hk2 (by rw [← HZ.out]; omega))

set_option maxRecDepth 100000 in
set_option maxHeartbeats 4000000 in
theorem refO (s : ByteArray) (c : UInt8) (l : List UInt8) (p : Nat) (b : Bool) (w : World) (h : Here s c l p) (hs : s.size ≤ 281474976710656) (x q : List UInt8) (hp : pLine l = .ok (x, q)) (hc1 : ¬ c.toNat = 43) (hc2 : ¬ c.toNat = 45) (hc3 : ¬ c.toNat = 58) (hc4 : ¬ c.toNat = 36) (hc5 : ¬ c.toNat = 42) :
    Calls Tryd.prog 29 #[.string s, .int .i64 (p : Int), .bool b] w (SinglePost s c l w) := by
  have HP := hide hp
  have HL : Hid (∀ W, Calls Tryd.prog 46 #[.string s, .int .i64 ((p : Int) + 1)] W fun e w' => e = .returned (.tuple #[.string ⟨x.toArray⟩, .int .i64 ((s.size - q.length : Nat) : Int), .bool true]) ∧ w' = W) := fun W => by
    rw [← lineRet_ok hp]
    exact line_here h hs W
  obtain ⟨hlen, hqs⟩ := pLine_len l x q hp
  clear hp
  have HI : Hid (∀ W, Calls Tryd.prog 47 #[.string ⟨x.toArray⟩] W fun e w' => e = .returned (.tuple #[.int .i64 ((pInt x).getD 0), .bool (pInt x).isSome]) ∧ Below W.heap.size W w') := fun W => by
    have := intOf_any ⟨x.toArray⟩ W
    rw [toList_mk] at this
    exact this
  generalize (pInt x).getD 0 = nn at *
  generalize (pInt x).isSome = oo at *
  have HM : Hid (pSingle c l = .error 1) := pSingle_other hc1 hc2 hc3 hc4
  generalize hz : s.size - q.length = z at *
  generalize hX : (⟨x.toArray⟩ : ByteArray) = X at *
  have h1 := h.lt
  have h2 := h.size
  have hg : s[p].toNat = c.toNat := by rw [h.get h1]
  go_enter Tryd.func29, Tryd.ntmps29
  go_wp2_with fail
  refine (HL.out _).mono ?_
  rintro e w1 ⟨rfl, rfl⟩
  go_wp2_with fail
  refine (HI.out _).mono ?_
  rintro e w1 ⟨rfl, hb0⟩
  obtain ⟨hB0, hB1, hb1, hz1⟩ := rep_begin hb0
  clear hb0 HI HL
  obtain ⟨c0, c1, c2, c3, f0, f1, f2, f3⟩ := four_of hB0
  obtain ⟨d0, d1, d2, d3, g0, g1, g2, g3⟩ := four_of hB1
  have HB0 := hide hB0
  clear hB0 hB1
  go_wp2_with fail
  clear c0 c1 c2 c3 f0 f1 f2 f3 d0 d1 d2 d3 g0 g1 g2 g3
  have hh2 := put4_heap HB0.out (.int .i64 0) (.string ⟨#[]⟩) (.int .i64 0) (.slice none 0 0)
  have hk2 := put4_below hb1 (Nat.le_refl _) (.int .i64 0) (.string ⟨#[]⟩) (.int .i64 0) (.slice none 0 0)
  generalize (((w1.setCell ⟨w.heap.size, 0, none⟩ (.int .i64 0)).setCell ⟨w.heap.size, 1, none⟩ (.string ⟨#[]⟩)).setCell ⟨w.heap.size, 2, none⟩ (.int .i64 0)).setCell ⟨w.heap.size, 3, none⟩ (.slice none 0 0) = w2 at *
  obtain ⟨k0, k1, k2, k3, e0, e1, e2, e3⟩ := four_of hh2
  exact bodyPost_ret (v := .tuple #[.agg #[.int .i64 0, .string ⟨#[]⟩, .int .i64 0, .slice none 0 0], .int .i64 p, .bool false]) (by simp [results, Tryd.results29, go_sem, k0, k1, k2, k3]) rfl (SinglePost.bad HM.out hk2 0 _)

set_option maxRecDepth 100000 in
set_option maxHeartbeats 4000000 in
theorem refStar (s : ByteArray) (c : UInt8) (l : List UInt8) (p : Nat) (w : World) (h : Here s c l p) (hs : s.size ≤ 281474976710656) (x q : List UInt8) (hp : pLine l = .ok (x, q)) (hc : c.toNat = 42) :
    Calls Tryd.prog 29 #[.string s, .int .i64 (p : Int), .bool false] w (SinglePost s c l w) := by
  have HP := hide hp
  have HL : Hid (∀ W, Calls Tryd.prog 46 #[.string s, .int .i64 ((p : Int) + 1)] W fun e w' => e = .returned (.tuple #[.string ⟨x.toArray⟩, .int .i64 ((s.size - q.length : Nat) : Int), .bool true]) ∧ w' = W) := fun W => by
    rw [← lineRet_ok hp]
    exact line_here h hs W
  obtain ⟨hlen, hqs⟩ := pLine_len l x q hp
  clear hp
  have HI : Hid (∀ W, Calls Tryd.prog 47 #[.string ⟨x.toArray⟩] W fun e w' => e = .returned (.tuple #[.int .i64 ((pInt x).getD 0), .bool (pInt x).isSome]) ∧ Below W.heap.size W w') := fun W => by
    have := intOf_any ⟨x.toArray⟩ W
    rw [toList_mk] at this
    exact this
  obtain ⟨nn, oo, hno⟩ : ∃ nn oo, (pInt x).getD 0 = nn ∧ (pInt x).isSome = oo := ⟨_, _, rfl, rfl⟩
  rw [hno.1, hno.2] at HI
  clear hno
  have HM : Hid (pSingle c l = .error 1) := pSingle_other (by omega) (by omega) (by omega) (by omega)
  generalize hz : s.size - q.length = z at *
  generalize hX : (⟨x.toArray⟩ : ByteArray) = X at *
  have h1 := h.lt
  have h2 := h.size
  have hg : s[p].toNat = c.toNat := by rw [h.get h1]
  go_enter Tryd.func29, Tryd.ntmps29
  go_wp2_with fail
  refine (HL.out _).mono ?_
  rintro e w1 ⟨rfl, rfl⟩
  go_wp2_with fail
  refine (HI.out _).mono ?_
  rintro e w1 ⟨rfl, hb0⟩
  obtain ⟨hB0, hB1, hb1, hz1⟩ := rep_begin hb0
  clear hb0 HI HL
  obtain ⟨c0, c1, c2, c3, f0, f1, f2, f3⟩ := four_of hB0
  obtain ⟨d0, d1, d2, d3, g0, g1, g2, g3⟩ := four_of hB1
  have HB0 := hide hB0
  clear hB0 hB1
  cases oo with
  | false =>
    go_wp2_with fail
    clear c0 c1 c2 c3 f0 f1 f2 f3 d0 d1 d2 d3 g0 g1 g2 g3
    have hh2 := put4_heap HB0.out (.int .i64 0) (.string ⟨#[]⟩) (.int .i64 0) (.slice none 0 0)
    have hk2 := put4_below hb1 (Nat.le_refl _) (.int .i64 0) (.string ⟨#[]⟩) (.int .i64 0) (.slice none 0 0)
    generalize (((w1.setCell ⟨w.heap.size, 0, none⟩ (.int .i64 0)).setCell ⟨w.heap.size, 1, none⟩ (.string ⟨#[]⟩)).setCell ⟨w.heap.size, 2, none⟩ (.int .i64 0)).setCell ⟨w.heap.size, 3, none⟩ (.slice none 0 0) = w2 at *
    obtain ⟨k0, k1, k2, k3, e0, e1, e2, e3⟩ := four_of hh2
    exact bodyPost_ret (v := .tuple #[.agg #[.int .i64 0, .string ⟨#[]⟩, .int .i64 0, .slice none 0 0], .int .i64 p, .bool false]) (by simp [results, Tryd.results29, go_sem, k0, k1, k2, k3]) rfl (SinglePost.bad HM.out hk2 0 _)
  | true =>
    by_cases hn : nn < 0
    · go_wp2_with fail
      clear c0 c1 c2 c3 f0 f1 f2 f3 d0 d1 d2 d3 g0 g1 g2 g3
      have hh2 := put4_heap HB0.out (.int .i64 0) (.string ⟨#[]⟩) (.int .i64 0) (.slice none 0 0)
      have hk2 := put4_below hb1 (Nat.le_refl _) (.int .i64 0) (.string ⟨#[]⟩) (.int .i64 0) (.slice none 0 0)
      generalize (((w1.setCell ⟨w.heap.size, 0, none⟩ (.int .i64 0)).setCell ⟨w.heap.size, 1, none⟩ (.string ⟨#[]⟩)).setCell ⟨w.heap.size, 2, none⟩ (.int .i64 0)).setCell ⟨w.heap.size, 3, none⟩ (.slice none 0 0) = w2 at *
      obtain ⟨k0, k1, k2, k3, e0, e1, e2, e3⟩ := four_of hh2
      exact bodyPost_ret (v := .tuple #[.agg #[.int .i64 0, .string ⟨#[]⟩, .int .i64 0, .slice none 0 0], .int .i64 p, .bool false]) (by simp [results, Tryd.results29, go_sem, k0, k1, k2, k3]) rfl (SinglePost.bad HM.out hk2 0 _)
    · go_wp2_with fail
      clear c0 c1 c2 c3 f0 f1 f2 f3 d0 d1 d2 d3 g0 g1 g2 g3
      have hh2 := put4_heap HB0.out (.int .i64 0) (.string ⟨#[]⟩) (.int .i64 0) (.slice none 0 0)
      have hk2 := put4_below hb1 (Nat.le_refl _) (.int .i64 0) (.string ⟨#[]⟩) (.int .i64 0) (.slice none 0 0)
      generalize (((w1.setCell ⟨w.heap.size, 0, none⟩ (.int .i64 0)).setCell ⟨w.heap.size, 1, none⟩ (.string ⟨#[]⟩)).setCell ⟨w.heap.size, 2, none⟩ (.int .i64 0)).setCell ⟨w.heap.size, 3, none⟩ (.slice none 0 0) = w2 at *
      obtain ⟨k0, k1, k2, k3, e0, e1, e2, e3⟩ := four_of hh2
      exact bodyPost_ret (v := .tuple #[.agg #[.int .i64 0, .string ⟨#[]⟩, .int .i64 0, .slice none 0 0], .int .i64 p, .bool false]) (by simp [results, Tryd.results29, go_sem, k0, k1, k2, k3]) rfl (SinglePost.bad HM.out hk2 0 _)

/-- the reference reads one reply as the program does -/
theorem refSingle (s : ByteArray) (c : UInt8) (l : List UInt8) (p : Nat) (b : Bool) (w : World) (h : Here s c l p) (hs : s.size ≤ 281474976710656) (hb : b = false ∨ ¬ c.toNat = 42) :
    Calls Tryd.prog 29 #[.string s, .int .i64 (p : Int), .bool b] w (SinglePost s c l w) := by
  cases hp : pLine l with
  | error n =>
    refine refS_line s c l p b w h hs n hp ?_
    have hn : pNumber l = .error n := by rw [pNumber, hp]
    unfold pSingle
    split
    · exact ⟨n, by rw [hp]⟩
    · split
      · exact ⟨n, by rw [hn]⟩
      · split
        · exact ⟨n, by rw [hn]⟩
        · split
          · exact ⟨n, by rw [pBytes, hn]⟩
          · exact ⟨1, rfl⟩
  | ok y =>
    obtain ⟨x, q⟩ := y
    by_cases h1 : c.toNat = 43
    · exact refS_text s c l p b w h hs x q hp h1
    by_cases h2 : c.toNat = 45
    · cases hv : pInt x with
      | none => exact refS_err_bad s c l p b w h hs x q hp hv h2
      | some v => exact refS_err_ok s c l p b w h hs x q hp v hv h2
    by_cases h3 : c.toNat = 58
    · cases hv : pInt x with
      | none => exact refS_num_bad s c l p b w h hs x q hp hv h3
      | some v => exact refS_num_ok s c l p b w h hs x q hp v hv h3
    by_cases h4 : c.toNat = 36
    · cases hv : pInt x with
      | none => exact refB_nan s c l p b w h hs x q hp hv h4
      | some v =>
        obtain ⟨_, hv1, hv2⟩ := pInt_inv hv
        by_cases hm1 : v = -1
        · subst hm1
          exact refB_none s c l p b w h hs x q hp hv h4
        by_cases hm0 : v < 0
        · exact refB_neg s c l p b w h hs x q hp v hv hm1 hm0 h4
        obtain ⟨m, rfl⟩ := Int.eq_ofNat_of_zero_le (show 0 ≤ v by omega)
        by_cases hsh : q.length < m + 2
        · exact refB_short s c l p b w h hs x q hp m hv (by omega) hsh h4
        · by_cases hx0 : (q[m]'(by omega)).toNat = 13
          · by_cases hx1 : (q[m + 1]'(by omega)).toNat = 10
            · exact refB_good s c l p b w h hs x q hp m hv (by omega) (by omega) h4 hx0 hx1
            · exact refB_bad1 s c l p b w h hs x q hp m hv (by omega) (by omega) h4 hx0 hx1
          · exact refB_bad0 s c l p b w h hs x q hp m hv (by omega) (by omega) h4 hx0
    by_cases h5 : c.toNat = 42
    · rcases hb with rfl | hb
      · exact refStar s c l p w h hs x q hp h5
      · exact absurd h5 hb
    · exact refO s c l p b w h hs x q hp h1 h2 h3 h4 h5
end Go.Proofs.YtolpmaapdkhigaaDoor
