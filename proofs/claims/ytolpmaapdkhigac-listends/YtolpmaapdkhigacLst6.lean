/- WALK of Pop. -/
import Derived.Test.YtolpmaapdkhigacLst4
import Derived.Deep.RegionHeld3
import Derived.Handy
namespace Go.Proofs.Ytolpmaapdkhigac
open Go.RowKit

def popE (x : Itm) : Int := if asI x 2 ≠ 0 then asI x 2 else if x.l = [] then 5 else 0
def popAt (left : Bool) (l : List ByteArray) : Nat := if left then 0 else l.length - 1
def popK (l : List ByteArray) (left : Bool) : List ByteArray := keptTo (fun i _ => decide (i = popAt left l)) l l.length
def popI (x : Itm) (left : Bool) : Itm := if popE x = 0 then lstI (popK x.l left) else Itm.none
def popS (x : Itm) (left : Bool) : ByteArray := if popE x = 0 then x.l[popAt left x.l]! else ⟨#[]⟩
set_option maxRecDepth 100000 in
set_option maxHeartbeats 4000000 in
theorem pop_any (v : Value) (x : Itm) (left : Bool) (w : World) (h : ItemIs w v x) :
    Calls Try.prog 6 #[v, .bool left] w fun e w' => ∃ u, e = .returned (.tuple #[u, .string (popS x left), .int .i64 (popE x)]) ∧ ItemFrom w.heap.size w' u (popI x left) ∧ Below w.heap.size w w' := by
  have HC : Hid (∀ W, Below w.heap.size w W → Calls Try.prog 21 #[v, .int .i64 2] W fun e w' => e = .returned (.int .i64 (asI x 2)) ∧ Below W.heap.size W w') := fun W hW => common_any v x 2 W (h.below hW)
  obtain ⟨⟨a1, c1, a2, c2, a3, c3, rfl, hx1, -, -⟩, tz, lz, -, -, -, -, -⟩ := h
  have HX := hide hx1
  clear hx1
  by_cases h0 : asI x 2 = 0
  · obtain ⟨-, hx24, hxl⟩ := asI_list h0
    rw [h0] at HC
    by_cases hne : x.l = []
    · have hE : popE x = 5 := by rw [popE, if_neg (by simp [h0]), if_pos hne]
      rw [popS, popI, hE, if_neg (by decide), if_neg (by decide)]
      rw [hne] at HC ⊢
      clear hE h0 hxl hne HX
      generalize x.t = t at *
      generalize x.k = k at *
      generalize x.p.length = n2 at *
      generalize x.s.length = n3 at *
      go_enter Try.func6, Try.ntmps6
      go_wp2_with fail
      refine (HC.out _ (((Below.refl _ w).alloc (Nat.le_refl _) _).alloc (by simp) _)).mono ?_
      rintro e w1 ⟨rfl, hb1⟩
      obtain ⟨hc, hf⟩ := bcell hb1
      have hz : w.heap.size + 1 < w1.heap.size := by have := hb1.size; simp at this; omega
      have hB1 : Below w.heap.size w w1 := (((Below.refl _ w).alloc (Nat.le_refl _) _).alloc (by simp) _).trans (hb1.mono (by simp; omega))
      go_wp2_with fail
      refine bodyPost_ret (v := .tuple #[.agg #[.int .i64 0, .string ⟨#[]⟩, .slice none 0 0, .slice none 0 0, .slice none 0 0], .string ⟨#[]⟩, .int .i64 5]) (by simp [results, Try.results6, go_sem, hc]) rfl ⟨_, rfl, fun w'' _ => zero_is w'', ?_⟩
      go_grown
    · have hE : popE x = 0 := by rw [popE, if_neg (by simp [h0]), if_neg hne]
      rw [popS, popI, hE, if_pos rfl, if_pos rfl, popK]
      have hpos : 0 < x.l.length := List.length_pos_iff.2 hne
      have hl0 : (((x.l.length : Nat) : Int) == 0) = false := by rw [beq_eq_false_iff_ne]; omega
      have HZ := hide lz
      clear hE h0 hxl hne lz
      generalize x.l = L at *
      cases left with
      | true =>
        have hat : 0 < L.length := hpos
        rw [show popAt true L = 0 from rfl, getElem!_pos L 0 hat]
        have HW : Hid (∀ (b : Nat) (W : World), Below w.heap.size w W → W.cell? ⟨b, 0, none⟩ = some (.int .i64 ((0 : Nat) : Int)) → Calls Try.prog 25 #[.slice a1 L.length c1, .func (.func 26) #[] #[.pointer (some ⟨b, 0, none⟩)]] W fun e w' => ∃ v, e = .returned v ∧ ItemFrom W.heap.size w' v (lstI (keptTo (fun i _ => decide (i = 0)) L L.length)) ∧ Below W.heap.size W w') := fun b W hW hc => withoutP_any b 0 a1 c1 L W (HX.out.below hW) (by omega) HZ.out hc
        generalize x.t = t at *
        generalize x.k = k at *
        generalize x.p.length = n2 at *
        generalize x.s.length = n3 at *
        go_enter Try.func6, Try.ntmps6
        go_wp2_with fail
        refine (HC.out _ (((Below.refl _ w).alloc (Nat.le_refl _) _).alloc (by simp) _)).mono ?_
        rintro e w1 ⟨rfl, hb1⟩
        obtain ⟨hc, hf⟩ := bcell hb1
        have hz : w.heap.size + 1 < w1.heap.size := by have := hb1.size; simp at this; omega
        have hB1 : Below w.heap.size w w1 := (((Below.refl _ w).alloc (Nat.le_refl _) _).alloc (by simp) _).trans (hb1.mono (by simp; omega))
        go_wp2_with fail
        obtain ⟨g, o, rfl, hcs⟩ : ∃ g o, a1 = some ⟨g, o, none⟩ ∧ ∀ i (h : i < L.length), w.cell? ⟨g, o + i, none⟩ = some (.string L[i]) := by
          rcases HX.out with h | h
          · subst h; simp at hpos
          · exact h
        have hgl : g < w.heap.size := World.block_lt_of_cell? _ _ (hcs _ hat)
        have HO : Hid (w1.cell? ⟨g, o, none⟩ = some (.string L[0])) := (hB1.cell (p := ⟨g, o, none⟩) hgl).trans (by simpa using hcs _ hat)
        have HX1 : Hid (w1.cell? ⟨w.heap.size, 2, none⟩ = some (.slice (some ⟨g, o, none⟩) L.length c1)) := (hc _ _ (by simp; omega)).trans (by simp [go_sem])
        have HK0 : Hid (∀ j, w1.frozen? ⟨w.heap.size + 1, j, none⟩ = false) := fun j => (hf _ _ (by simp)).trans (by simp [go_sem])
        have HB0 : Hid (w1.cell? ⟨w.heap.size + 1, 0, none⟩ = some (.int .i64 0) ∧ w1.cell? ⟨w.heap.size + 1, 1, none⟩ = some (.string ⟨#[]⟩) ∧ w1.cell? ⟨w.heap.size + 1, 2, none⟩ = some (.slice none 0 0) ∧ w1.cell? ⟨w.heap.size + 1, 3, none⟩ = some (.slice none 0 0) ∧ w1.cell? ⟨w.heap.size + 1, 4, none⟩ = some (.slice none 0 0)) :=
          ⟨(hc _ _ (by simp)).trans (by simp [go_sem]), (hc _ _ (by simp)).trans (by simp [go_sem]), (hc _ _ (by simp)).trans (by simp [go_sem]), (hc _ _ (by simp)).trans (by simp [go_sem]), (hc _ _ (by simp)).trans (by simp [go_sem])⟩
        have CB : Below w.heap.size w (w1.alloc (.cells #[.int .i64 ((0 : Nat) : Int)] 3)) := hB1.alloc hB1.size _
        have c2' : w1.cell? ⟨w.heap.size, 2, none⟩ = some (.slice (some ⟨g, o, none⟩) L.length c1) := HX1.out
        have o2' : w1.cell? ⟨g, o, none⟩ = some (.string L[0]) := HO.out
        have hgl1 : g < w1.heap.size := by omega
        have hy1 : w.heap.size < w1.heap.size := by omega
        clear hcs HX hc hf hb1 HO HX1
        go_wp2_with fail
        generalize hW1 : World.alloc w1 _ = W1
        have AB : Below w1.heap.size w1 W1 := by rw [← hW1]; exact (Below.refl _ _).alloc (Nat.le_refl _) _
        have zW : w1.heap.size < W1.heap.size := by rw [← hW1]; simp
        have A0 : W1.cell? ⟨w1.heap.size, 0, none⟩ = some (.int .i64 ((0 : Nat) : Int)) := by rw [← hW1]; simp [go_sem]
        have CW : Below w.heap.size w W1 := hB1.trans (AB.mono hB1.size)
        have X2 : W1.cell? ⟨w.heap.size, 2, none⟩ = some (.slice (some ⟨g, o, none⟩) L.length c1) := (AB.cell (p := ⟨w.heap.size, 2, none⟩) hy1).trans c2'
        have O2 : W1.cell? ⟨g, o, none⟩ = some (.string L[0]) := (AB.cell (p := ⟨g, o, none⟩) hgl1).trans o2'
        have HBB : Hid (∀ w2, Below W1.heap.size W1 w2 → (w2.cell? ⟨w.heap.size + 1, 0, none⟩ = some (.int .i64 0) ∧ w2.cell? ⟨w.heap.size + 1, 1, none⟩ = some (.string ⟨#[]⟩) ∧ w2.cell? ⟨w.heap.size + 1, 2, none⟩ = some (.slice none 0 0) ∧ w2.cell? ⟨w.heap.size + 1, 3, none⟩ = some (.slice none 0 0) ∧ w2.cell? ⟨w.heap.size + 1, 4, none⟩ = some (.slice none 0 0)) ∧ (∀ j, w2.frozen? ⟨w.heap.size + 1, j, none⟩ = false) ∧ w2.cell? ⟨w.heap.size, 2, none⟩ = some (.slice (some ⟨g, o, none⟩) L.length c1) ∧ w2.cell? ⟨w1.heap.size, 0, none⟩ = some (.int .i64 ((0 : Nat) : Int)) ∧ w2.cell? ⟨g, o, none⟩ = some (.string L[0])) := fun w2 h2 => by
          have hyy : w.heap.size + 1 < W1.heap.size := by omega
          have A2 : Below w1.heap.size w1 w2 := AB.trans (h2.mono (Nat.le_of_lt zW))
          obtain ⟨b0, b1, b2, b3, b4⟩ := HB0.out
          exact ⟨⟨(A2.cell (p := ⟨w.heap.size + 1, 0, none⟩) hz).trans b0, (A2.cell (p := ⟨w.heap.size + 1, 1, none⟩) hz).trans b1, (A2.cell (p := ⟨w.heap.size + 1, 2, none⟩) hz).trans b2, (A2.cell (p := ⟨w.heap.size + 1, 3, none⟩) hz).trans b3, (A2.cell (p := ⟨w.heap.size + 1, 4, none⟩) hz).trans b4⟩, fun j => (A2.frozen (p := ⟨w.heap.size + 1, j, none⟩) hz).trans (HK0.out j), (h2.cell (p := ⟨w.heap.size, 2, none⟩) (by simp only; omega)).trans X2, (h2.cell (p := ⟨w1.heap.size, 0, none⟩) zW).trans A0, (h2.cell (p := ⟨g, o, none⟩) (by simp only; omega)).trans O2⟩
        have ne1 : w1.heap.size ≠ w.heap.size + 1 := by omega
        have ne2 : w.heap.size + 1 ≠ w1.heap.size := by omega
        have ne3 : g ≠ w.heap.size + 1 := by omega
        have ne4 : w.heap.size + 1 ≠ g := by omega
        clear hW1 CB c2' o2'
        go_region_held3 (fun w' => w'.cell? ⟨w.heap.size, 2, none⟩ = some (.slice (some ⟨g, o, none⟩) L.length c1) ∧ w'.cell? ⟨w1.heap.size, 0, none⟩ = some (.int .i64 ((0 : Nat) : Int)) ∧ w'.cell? ⟨g, o, none⟩ = some (.string L[0])) (go_keep)
          ((go_at_call 25; refine (HW.out w1.heap.size _ CW.drew A0).mono ?_; rintro e w2 ⟨u, rfl, hI, hb2⟩; obtain ⟨⟨i1, j1, i2, j2, i3, j3, rfl, -, -, -⟩, -, -, -, -, -, -, -⟩ := id hI.is; obtain ⟨⟨b0, b1, b2, b3, b4⟩, fz, s2, s1, s3⟩ := HBB.out w2 ⟨hb2.os, hb2.tape, hb2.output, hb2.size, hb2.block⟩; have fz0 := fz 0; have fz1 := fz 1; have fz2 := fz 2; have fz3 := fz 3; have fz4 := fz 4))
        all_goals
          go_wp2_with fail
          have hb2' : Below W1.heap.size W1 w2 := ⟨hb2.os, hb2.tape, hb2.output, hb2.size, hb2.block⟩
          have C2 : Below w.heap.size w w2 := CW.trans (hb2'.mono CW.size)
          refine bodyPost_ret (v := .tuple #[.agg #[.int .i64 (lstI (keptTo (fun i _ => decide (i = 0)) L L.length)).k, .string (lstI (keptTo (fun i _ => decide (i = 0)) L L.length)).t, .slice i1 (lstI (keptTo (fun i _ => decide (i = 0)) L L.length)).l.length j1, .slice i2 (lstI (keptTo (fun i _ => decide (i = 0)) L L.length)).p.length j2, .slice i3 (lstI (keptTo (fun i _ => decide (i = 0)) L L.length)).s.length j3], .string L[0], .int .i64 0]) (by simp [results, Try.results6, go_sem, b0, b1, b2, b3, b4]) rfl ⟨_, rfl, ?_, ?_⟩
          · exact fun w'' hw => hI w'' (fun g' o' u' hg hu => hw g' o' u' (by have : W1.drew.heap.size = W1.heap.size := rfl; omega) ((five_apart _ _ _ _ _ _ _ g' o' (by have : W1.drew.heap.size = W1.heap.size := rfl; omega)).trans hu))
          · go_grown
      | false =>
        obtain ⟨m, hm⟩ : ∃ m, m = L.length - 1 := ⟨_, rfl⟩
        have hat : m < L.length := by omega
        rw [show popAt false L = m by rw [hm]; rfl, getElem!_pos L m hat]
        have hmI : ((L.length : Nat) : Int) - 1 = ((m : Nat) : Int) := by omega
        have hmi : ((m : Nat) : Int) < ((L.length : Nat) : Int) := by omega
        have HW : Hid (∀ (b : Nat) (W : World), Below w.heap.size w W → W.cell? ⟨b, 0, none⟩ = some (.int .i64 ((m : Nat) : Int)) → Calls Try.prog 25 #[.slice a1 L.length c1, .func (.func 26) #[] #[.pointer (some ⟨b, 0, none⟩)]] W fun e w' => ∃ v, e = .returned v ∧ ItemFrom W.heap.size w' v (lstI (keptTo (fun i _ => decide (i = m)) L L.length)) ∧ Below W.heap.size W w') := fun b W hW hc => withoutP_any b m a1 c1 L W (HX.out.below hW) (by omega) HZ.out hc
        clear hm
        generalize x.t = t at *
        generalize x.k = k at *
        generalize x.p.length = n2 at *
        generalize x.s.length = n3 at *
        go_enter Try.func6, Try.ntmps6
        go_wp2_with fail
        refine (HC.out _ (((Below.refl _ w).alloc (Nat.le_refl _) _).alloc (by simp) _)).mono ?_
        rintro e w1 ⟨rfl, hb1⟩
        obtain ⟨hc, hf⟩ := bcell hb1
        have hz : w.heap.size + 1 < w1.heap.size := by have := hb1.size; simp at this; omega
        have hB1 : Below w.heap.size w w1 := (((Below.refl _ w).alloc (Nat.le_refl _) _).alloc (by simp) _).trans (hb1.mono (by simp; omega))
        go_wp2_with fail
        obtain ⟨g, o, rfl, hcs⟩ : ∃ g o, a1 = some ⟨g, o, none⟩ ∧ ∀ i (h : i < L.length), w.cell? ⟨g, o + i, none⟩ = some (.string L[i]) := by
          rcases HX.out with h | h
          · subst h; simp at hpos
          · exact h
        have hgl : g < w.heap.size := World.block_lt_of_cell? _ _ (hcs _ hat)
        have HO : Hid (w1.cell? ⟨g, o + m, none⟩ = some (.string L[m])) := (hB1.cell (p := ⟨g, o + m, none⟩) hgl).trans (by simpa using hcs _ hat)
        have HX1 : Hid (w1.cell? ⟨w.heap.size, 2, none⟩ = some (.slice (some ⟨g, o, none⟩) L.length c1)) := (hc _ _ (by simp; omega)).trans (by simp [go_sem])
        have HK0 : Hid (∀ j, w1.frozen? ⟨w.heap.size + 1, j, none⟩ = false) := fun j => (hf _ _ (by simp)).trans (by simp [go_sem])
        have HB0 : Hid (w1.cell? ⟨w.heap.size + 1, 0, none⟩ = some (.int .i64 0) ∧ w1.cell? ⟨w.heap.size + 1, 1, none⟩ = some (.string ⟨#[]⟩) ∧ w1.cell? ⟨w.heap.size + 1, 2, none⟩ = some (.slice none 0 0) ∧ w1.cell? ⟨w.heap.size + 1, 3, none⟩ = some (.slice none 0 0) ∧ w1.cell? ⟨w.heap.size + 1, 4, none⟩ = some (.slice none 0 0)) :=
          ⟨(hc _ _ (by simp)).trans (by simp [go_sem]), (hc _ _ (by simp)).trans (by simp [go_sem]), (hc _ _ (by simp)).trans (by simp [go_sem]), (hc _ _ (by simp)).trans (by simp [go_sem]), (hc _ _ (by simp)).trans (by simp [go_sem])⟩
        have CB : Below w.heap.size w (w1.alloc (.cells #[.int .i64 ((m : Nat) : Int)] 3)) := hB1.alloc hB1.size _
        have c2' : w1.cell? ⟨w.heap.size, 2, none⟩ = some (.slice (some ⟨g, o, none⟩) L.length c1) := HX1.out
        have o2' : w1.cell? ⟨g, o + m, none⟩ = some (.string L[m]) := HO.out
        have hgl1 : g < w1.heap.size := by omega
        have hy1 : w.heap.size < w1.heap.size := by omega
        clear hcs HX hc hf hb1 HO HX1
        go_wp2_with fail
        generalize hW1 : World.alloc w1 _ = W1
        have AB : Below w1.heap.size w1 W1 := by rw [← hW1]; exact (Below.refl _ _).alloc (Nat.le_refl _) _
        have zW : w1.heap.size < W1.heap.size := by rw [← hW1]; simp
        have A0 : W1.cell? ⟨w1.heap.size, 0, none⟩ = some (.int .i64 ((m : Nat) : Int)) := by rw [← hW1]; simp [go_sem]
        have CW : Below w.heap.size w W1 := hB1.trans (AB.mono hB1.size)
        have X2 : W1.cell? ⟨w.heap.size, 2, none⟩ = some (.slice (some ⟨g, o, none⟩) L.length c1) := (AB.cell (p := ⟨w.heap.size, 2, none⟩) hy1).trans c2'
        have O2 : W1.cell? ⟨g, o + m, none⟩ = some (.string L[m]) := (AB.cell (p := ⟨g, o + m, none⟩) hgl1).trans o2'
        have HBB : Hid (∀ w2, Below W1.heap.size W1 w2 → (w2.cell? ⟨w.heap.size + 1, 0, none⟩ = some (.int .i64 0) ∧ w2.cell? ⟨w.heap.size + 1, 1, none⟩ = some (.string ⟨#[]⟩) ∧ w2.cell? ⟨w.heap.size + 1, 2, none⟩ = some (.slice none 0 0) ∧ w2.cell? ⟨w.heap.size + 1, 3, none⟩ = some (.slice none 0 0) ∧ w2.cell? ⟨w.heap.size + 1, 4, none⟩ = some (.slice none 0 0)) ∧ (∀ j, w2.frozen? ⟨w.heap.size + 1, j, none⟩ = false) ∧ w2.cell? ⟨w.heap.size, 2, none⟩ = some (.slice (some ⟨g, o, none⟩) L.length c1) ∧ w2.cell? ⟨w1.heap.size, 0, none⟩ = some (.int .i64 ((m : Nat) : Int)) ∧ w2.cell? ⟨g, o + m, none⟩ = some (.string L[m])) := fun w2 h2 => by
          have hyy : w.heap.size + 1 < W1.heap.size := by omega
          have A2 : Below w1.heap.size w1 w2 := AB.trans (h2.mono (Nat.le_of_lt zW))
          obtain ⟨b0, b1, b2, b3, b4⟩ := HB0.out
          exact ⟨⟨(A2.cell (p := ⟨w.heap.size + 1, 0, none⟩) hz).trans b0, (A2.cell (p := ⟨w.heap.size + 1, 1, none⟩) hz).trans b1, (A2.cell (p := ⟨w.heap.size + 1, 2, none⟩) hz).trans b2, (A2.cell (p := ⟨w.heap.size + 1, 3, none⟩) hz).trans b3, (A2.cell (p := ⟨w.heap.size + 1, 4, none⟩) hz).trans b4⟩, fun j => (A2.frozen (p := ⟨w.heap.size + 1, j, none⟩) hz).trans (HK0.out j), (h2.cell (p := ⟨w.heap.size, 2, none⟩) (by simp only; omega)).trans X2, (h2.cell (p := ⟨w1.heap.size, 0, none⟩) zW).trans A0, (h2.cell (p := ⟨g, o + m, none⟩) (by simp only; omega)).trans O2⟩
        have ne1 : w1.heap.size ≠ w.heap.size + 1 := by omega
        have ne2 : w.heap.size + 1 ≠ w1.heap.size := by omega
        have ne3 : g ≠ w.heap.size + 1 := by omega
        have ne4 : w.heap.size + 1 ≠ g := by omega
        clear hW1 CB c2' o2'
        go_region_held3 (fun w' => w'.cell? ⟨w.heap.size, 2, none⟩ = some (.slice (some ⟨g, o, none⟩) L.length c1) ∧ w'.cell? ⟨w1.heap.size, 0, none⟩ = some (.int .i64 ((m : Nat) : Int)) ∧ w'.cell? ⟨g, o + m, none⟩ = some (.string L[m])) (go_keep)
          ((go_at_call 25; refine (HW.out w1.heap.size _ CW.drew A0).mono ?_; rintro e w2 ⟨u, rfl, hI, hb2⟩; obtain ⟨⟨i1, j1, i2, j2, i3, j3, rfl, -, -, -⟩, -, -, -, -, -, -, -⟩ := id hI.is; obtain ⟨⟨b0, b1, b2, b3, b4⟩, fz, s2, s1, s3⟩ := HBB.out w2 ⟨hb2.os, hb2.tape, hb2.output, hb2.size, hb2.block⟩; have fz0 := fz 0; have fz1 := fz 1; have fz2 := fz 2; have fz3 := fz 3; have fz4 := fz 4))
        all_goals
          go_wp2_with fail
          have hb2' : Below W1.heap.size W1 w2 := ⟨hb2.os, hb2.tape, hb2.output, hb2.size, hb2.block⟩
          have C2 : Below w.heap.size w w2 := CW.trans (hb2'.mono CW.size)
          refine bodyPost_ret (v := .tuple #[.agg #[.int .i64 (lstI (keptTo (fun i _ => decide (i = m)) L L.length)).k, .string (lstI (keptTo (fun i _ => decide (i = m)) L L.length)).t, .slice i1 (lstI (keptTo (fun i _ => decide (i = m)) L L.length)).l.length j1, .slice i2 (lstI (keptTo (fun i _ => decide (i = m)) L L.length)).p.length j2, .slice i3 (lstI (keptTo (fun i _ => decide (i = m)) L L.length)).s.length j3], .string L[m], .int .i64 0]) (by simp [results, Try.results6, go_sem, b0, b1, b2, b3, b4]) rfl ⟨_, rfl, ?_, ?_⟩
          · exact fun w'' hw => hI w'' (fun g' o' u' hg hu => hw g' o' u' (by have : W1.drew.heap.size = W1.heap.size := rfl; omega) ((five_apart _ _ _ _ _ _ _ g' o' (by have : W1.drew.heap.size = W1.heap.size := rfl; omega)).trans hu))
          · go_grown
  · have hE : popE x = asI x 2 := by rw [popE, if_pos h0]
    have h0' : (asI x 2 == 0) = false := by rw [beq_eq_false_iff_ne]; exact h0
    rw [popS, popI, hE, if_neg h0, if_neg h0]
    clear hE
    generalize asI x 2 = E at *
    generalize x.t = t at *
    generalize x.k = k at *
    generalize x.p.length = n2 at *
    generalize x.s.length = n3 at *
    go_enter Try.func6, Try.ntmps6
    go_wp2_with fail
    refine (HC.out _ (((Below.refl _ w).alloc (Nat.le_refl _) _).alloc (by simp) _)).mono ?_
    rintro e w1 ⟨rfl, hb1⟩
    obtain ⟨hc, hf⟩ := bcell hb1
    have hz : w.heap.size + 1 < w1.heap.size := by have := hb1.size; simp at this; omega
    have hB1 : Below w.heap.size w w1 := (((Below.refl _ w).alloc (Nat.le_refl _) _).alloc (by simp) _).trans (hb1.mono (by simp; omega))
    go_wp2_with fail
    refine bodyPost_ret (v := .tuple #[.agg #[.int .i64 0, .string ⟨#[]⟩, .slice none 0 0, .slice none 0 0, .slice none 0 0], .string ⟨#[]⟩, .int .i64 E]) (by simp [results, Try.results6, go_sem, hc]) rfl ⟨_, rfl, fun w'' _ => zero_is w'', ?_⟩
    go_grown
end Go.Proofs.Ytolpmaapdkhigac
