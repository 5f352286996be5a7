/- WALKS of the reference: an item's bytes, an item out of bytes, whole. -/
import Derived.Test.YtmpcnkaodjjkbabRItm3
import Derived.Test.YtmpcnkaodjjkbabRItm5
import Derived.Test.YtmpcnkaodjjkbabRByt2
import Derived.Handy
namespace Go.Proofs.Ytmpcnkaodjjkbab
open Go.RowKit

set_option maxRecDepth 100000 in
set_option maxHeartbeats 1000000 in
theorem itemBytes_one (t : ByteArray) (a1 a2 a3 : Option Addr) (n1 n2 n3 c1 c2 c3 : Nat) (w : World) (ht : t.size ≤ 60) :
    Calls Try.prog 12 #[.agg #[.int .i64 1, .string t, .slice a1 n1 c1, .slice a2 n2 c2, .slice a3 n3 c3]] w fun e w' => e = .returned (.string ⟨(1 :: t.data.toList).toArray⟩) ∧ Below w.heap.size w w' := by
  go_enter Try.func12, Try.ntmps12
  go_wp2_with fail
  have C_0 : Below w.heap.size w (w.alloc (.cells #[.int .i64 1, .string t, .slice a1 n1 c1, .slice a2 n2 c2, .slice a3 n3 c3] 32)) := (Below.refl _ w).alloc (Nat.le_refl _) _
  have X_1 := hide (BoxAt.new w (.int .i64 1) (.string t) (.slice a1 n1 c1) (.slice a2 n2 c2) (.slice a3 n3 c3) 32)
  refine (refOneB_any 1 _ (by omega) (by omega)).mono ?_
  rintro e w1 ⟨rfl, hb1⟩
  have C_2 : Below w.heap.size w w1 := C_0.trans (hb1.mono C_0.size)
  clear C_0
  have X_3 := hide (X_1.out.below hb1)
  clear X_1
  clear hb1
  obtain ⟨xc0, xc1, xc2, xc3, xc4, xlt⟩ := X_3.out
  have hj : ¬ 9223372036854775807 < (⟨#[UInt8.ofNat (1 : Int).toNat]⟩ : ByteArray).size + t.size := by rw [show (⟨#[UInt8.ofNat (1 : Int).toNat]⟩ : ByteArray).size = 1 from rfl]; omega
  go_wp2_with fail
  go_ret
  refine ⟨?_, C_2⟩
  exact congrArg (fun z => Ending.returned (.string z)) (ba_of (by rw [list_append]; rfl))
theorem itemBytes_any (v : Value) (x : Itm) (w : World) (h : ItemIs w v x) (h0 : chkI x = 0) :
    Calls Try.prog 12 #[v] w fun e w' => e = .returned (.string ⟨(encI x).toArray⟩) ∧ Below w.heap.size w w' := by
  have R := right_of h0
  obtain ⟨⟨a1, c1, a2, c2, a3, c3, rfl, hx1, hx2, hx3⟩, -, -, -, -, -, -, -⟩ := h
  by_cases hk : x.k = 1
  · have hh := itemBytes_one x.t a1 a2 a3 x.l.length x.p.length x.s.length c1 c2 c3 w R.tz
    rw [encI, if_pos hk, hk]
    exact hh
  · rw [encI, if_neg hk]
    have hh := itemBytes_many x.k x.t a1 a2 a3 c1 c2 c3 x.l x.p x.s w (by have := R.k1; omega) R.k5 hx1 R.ln R.pn R.sn R.lz hx2 R.pz (fun t ht => by
      have h1 := (R.pz t ht).1
      have h2 := (R.pz t ht).2
      unfold encP encT
      rw [List.length_append, List.length_cons, List.length_cons, size_list, size_list]
      omega) hx3 (fun t ht => ⟨R.sz t ht, R.sr t ht⟩) (fun t ht => by
      have h1 := R.sz t ht
      unfold encS num4 encT
      simp only [List.length_append, List.length_cons, List.length_nil, size_list]
      omega)
    have e : ([UInt8.ofNat x.k.toNat, UInt8.ofNat (x.l.length + x.p.length + x.s.length)] ++ (x.l.map encT).flatten ++ (x.p.map encP).flatten ++ (x.s.map encS).flatten) = UInt8.ofNat x.k.toNat :: UInt8.ofNat (manyI x) :: bodyI x := by
      simp [bodyI, manyI, List.append_assoc]
    rw [e] at hh
    exact hh
theorem dec_map {α : Type} {l : List UInt8} {o : Option α} {f : α → Itm} (h : pItem l = o.map f) : (o = none → decE l = 1 ∧ decI l = Itm.none) ∧ (∀ xs, o = some xs → decE l = chkI (f xs) ∧ (chkI (f xs) = 0 → decI l = f xs) ∧ (chkI (f xs) ≠ 0 → decI l = Itm.none)) := by
  refine ⟨fun e => dec_none (by rw [h, e]; rfl), fun xs e => dec_some (by rw [h, e]; rfl)⟩
theorem itemOf_any (s : ByteArray) (w : World) (hs : s.size ≤ 281474976710656) :
    Calls Try.prog 13 #[.string s] w fun e w' => ∃ u, e = .returned (.tuple #[u, .int .i64 (decE s.data.toList)]) ∧ (∀ W, Stays w.heap.size w' W → ItemIs W u (decI s.data.toList)) ∧ Below w.heap.size w w' := by
  have es := bytes_mkT s
  cases hl : s.data.toList with
  | nil =>
    rw [hl] at es
    have hd := dec_none (l := s.data.toList) (by rw [hl]; rfl)
    have hh := itemOf_nil s w hs es.symm hd
    rw [hl] at hh
    exact hh
  | cons c l =>
    rw [hl] at es
    have hp : pItem s.data.toList = pItem (c :: l) := by rw [hl]
    rw [← hl]
    simp only [pItem] at hp
    by_cases h1 : c.toNat = 1
    · rw [if_pos h1] at hp
      exact itemOf_text s c ⟨l.toArray⟩ w hs (by rw [toList_mk]; exact es.symm) h1 (dec_some hp)
    rw [if_neg h1] at hp
    by_cases h2 : c.toNat = 2
    · rw [if_pos h2] at hp
      obtain ⟨d1, d2⟩ := dec_map hp
      exact itemOf_2 s c l w hs es.symm h2 d1 d2
    rw [if_neg h2] at hp
    by_cases h3 : c.toNat = 3
    · rw [if_pos h3] at hp
      obtain ⟨d1, d2⟩ := dec_map hp
      exact itemOf_3 s c l w hs es.symm h3 d1 d2
    rw [if_neg h3] at hp
    by_cases h4 : c.toNat = 4
    · rw [if_pos h4] at hp
      obtain ⟨d1, d2⟩ := dec_map hp
      exact itemOf_4 s c l w hs es.symm h4 d1 d2
    rw [if_neg h4] at hp
    by_cases h5 : c.toNat = 5
    · rw [if_pos h5] at hp
      obtain ⟨d1, d2⟩ := dec_map hp
      exact itemOf_5 s c l w hs es.symm h5 d1 d2
    rw [if_neg h5] at hp
    exact itemOf_other s c l w hs es.symm (by omega) (dec_none hp)
end Go.Proofs.Ytmpcnkaodjjkbab
