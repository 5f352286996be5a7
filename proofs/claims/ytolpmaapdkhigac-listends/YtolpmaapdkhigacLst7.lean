/- WALK of Trim and Range. -/
import Derived.Test.YtolpmaapdkhigacLst1b
import Derived.Test.YtolpmaapdkhigacLst4
import Derived.Handy
namespace Go.Proofs.Ytolpmaapdkhigac
open Go.RowKit

def trimK (l : List ByteArray) (f t : Int) : List ByteArray := keptTo (trimGo (place1 l.length f t) (place2 l.length f t)) l l.length
def trimI (x : Itm) (f t : Int) : Itm := if asI x 2 = 0 then lstI (trimK x.l f t) else Itm.none
set_option maxRecDepth 100000 in
set_option maxHeartbeats 4000000 in
theorem trim_any (v : Value) (x : Itm) (from_ to_ : Int) (w : World) (h : ItemIs w v x) (hf1 : -9223372036854775808 ≤ from_) (ht1 : -9223372036854775808 ≤ to_) (hf2 : from_ ≤ 9223372036854775807) (ht2 : to_ ≤ 9223372036854775807) :
    Calls Try.prog 8 #[v, .int .i64 from_, .int .i64 to_] w fun e w' => ∃ u, e = .returned (.tuple #[u, .int .i64 (asI x 2)]) ∧ ItemFrom w.heap.size w' u (trimI x from_ to_) ∧ Below w.heap.size w w' := by
  have HC : Hid (∀ W, Below w.heap.size w W → Calls Try.prog 21 #[v, .int .i64 2] W fun e w' => e = .returned (.int .i64 (asI x 2)) ∧ Below W.heap.size W w') := fun W hW => common_any v x 2 W (h.below hW)
  obtain ⟨⟨a1, c1, a2, c2, a3, c3, rfl, hx1, -, -⟩, tz, lz, -, -, -, -, -⟩ := h
  have HX := hide hx1
  clear hx1
  by_cases h0 : asI x 2 = 0
  · obtain ⟨-, hx24, hxl⟩ := asI_list h0
    rw [trimI, if_pos h0, h0, trimK]
    rw [h0] at HC
    have HZ := hide lz
    clear h0 hxl lz
    generalize x.l = L at *
    have HP : Hid (∀ W, Calls Try.prog 27 #[.int .i64 L.length, .int .i64 from_, .int .i64 to_] W fun e w' => e = .returned (.tuple #[.int .i64 (place1 L.length from_ to_), .int .i64 (place2 L.length from_ to_)]) ∧ w' = W) := fun W => places_any _ _ _ W (by omega) hf1 ht1 hf2 ht2
    have HW : Hid (∀ (b1 b2 : Nat) (W : World), Below w.heap.size w W → W.cell? ⟨b1, 0, none⟩ = some (.int .i64 (place1 L.length from_ to_)) → W.cell? ⟨b2, 0, none⟩ = some (.int .i64 (place2 L.length from_ to_)) → Calls Try.prog 25 #[.slice a1 L.length c1, .func (.func 28) #[] #[.pointer (some ⟨b1, 0, none⟩), .pointer (some ⟨b2, 0, none⟩)]] W fun e w' => ∃ v, e = .returned v ∧ ItemFrom W.heap.size w' v (lstI (keptTo (trimGo (place1 L.length from_ to_) (place2 L.length from_ to_)) L L.length)) ∧ Below W.heap.size W w') := fun b1 b2 W hW hc hd => withoutT_any b1 b2 _ _ a1 c1 L W (HX.out.below hW) (by omega) HZ.out hc hd
    generalize keptTo (trimGo (place1 L.length from_ to_) (place2 L.length from_ to_)) L L.length = K at *
    generalize place1 L.length from_ to_ = P1 at *
    generalize place2 L.length from_ to_ = P2 at *
    generalize x.t = t at *
    generalize x.k = k at *
    generalize x.p.length = n2 at *
    generalize x.s.length = n3 at *
    go_enter Try.func8, Try.ntmps8
    go_wp2_with fail
    refine (HC.out _ (((Below.refl _ w).alloc (Nat.le_refl _) _).alloc (by simp) _)).mono ?_
    rintro e w1 ⟨rfl, hb1⟩
    obtain ⟨hc, hf⟩ := bcell hb1
    have hz : w.heap.size + 1 < w1.heap.size := by have := hb1.size; simp at this; omega
    have hB1 : Below w.heap.size w w1 := (((Below.refl _ w).alloc (Nat.le_refl _) _).alloc (by simp) _).trans (hb1.mono (by simp; omega))
    go_wp2_with fail
    refine (HP.out _).mono ?_
    rintro e w2 ⟨rfl, rfl⟩
    have hy : w.heap.size < w2.heap.size := by omega
    go_wp2_with fail
    refine (HW.out w2.heap.size (w2.heap.size + 1) _ ?hA ?hB ?hD).mono ?_
    case hA => go_grown
    case hB => simp [go_sem]
    case hD => simp [go_sem]
    rintro e w3 ⟨u, rfl, hI, hb3⟩
    have E3 : Below w2.heap.size w2 w3 := (((Below.refl _ w2).alloc (Nat.le_refl _) _).alloc (by simp) _).trans (hb3.mono (by simp; omega))
    have D3 : Below w.heap.size w w3 := hB1.trans (E3.mono hB1.size)
    have z3 := hb3.size
    simp at z3
    have b0 := (E3.cell (p := ⟨w.heap.size + 1, 0, none⟩) hz).trans ((hc _ _ (by simp)).trans (show _ = some (.int .i64 0) by simp [go_sem]))
    have b1 := (E3.cell (p := ⟨w.heap.size + 1, 1, none⟩) hz).trans ((hc _ _ (by simp)).trans (show _ = some (.string ⟨#[]⟩) by simp [go_sem]))
    have b2 := (E3.cell (p := ⟨w.heap.size + 1, 2, none⟩) hz).trans ((hc _ _ (by simp)).trans (show _ = some (.slice none 0 0) by simp [go_sem]))
    have b3 := (E3.cell (p := ⟨w.heap.size + 1, 3, none⟩) hz).trans ((hc _ _ (by simp)).trans (show _ = some (.slice none 0 0) by simp [go_sem]))
    have b4 := (E3.cell (p := ⟨w.heap.size + 1, 4, none⟩) hz).trans ((hc _ _ (by simp)).trans (show _ = some (.slice none 0 0) by simp [go_sem]))
    have g0 := (E3.frozen (p := ⟨w.heap.size + 1, 0, none⟩) hz).trans ((hf _ _ (by simp)).trans (show _ = false by simp [go_sem]))
    have g1 := (E3.frozen (p := ⟨w.heap.size + 1, 1, none⟩) hz).trans ((hf _ _ (by simp)).trans (show _ = false by simp [go_sem]))
    have g2 := (E3.frozen (p := ⟨w.heap.size + 1, 2, none⟩) hz).trans ((hf _ _ (by simp)).trans (show _ = false by simp [go_sem]))
    have g3 := (E3.frozen (p := ⟨w.heap.size + 1, 3, none⟩) hz).trans ((hf _ _ (by simp)).trans (show _ = false by simp [go_sem]))
    have g4 := (E3.frozen (p := ⟨w.heap.size + 1, 4, none⟩) hz).trans ((hf _ _ (by simp)).trans (show _ = false by simp [go_sem]))
    have HI := hide hI
    obtain ⟨⟨i1, j1, i2, j2, i3, j3, rfl, -, -, -⟩, -, -, -, -, -, -, -⟩ := hI.is
    clear hI hc hf
    generalize hKI : lstI K = KI at *
    go_wp2_with fail
    refine bodyPost_ret (v := .tuple #[.agg #[.int .i64 KI.k, .string KI.t, .slice i1 KI.l.length j1, .slice i2 KI.p.length j2, .slice i3 KI.s.length j3], .int .i64 0]) (by simp [results, Try.results8, go_sem, b0, b1, b2, b3, b4]) rfl ⟨_, rfl, ?_, ?_⟩
    · rw [hKI]
      exact fun w'' hw => HI.out w'' (fun g' o' u' hg hu => by
        simp at hg
        exact hw g' o' u' (by omega) ((five_apart _ _ _ _ _ _ _ g' o' (by omega)).trans hu))
    · go_grown
  · rw [trimI, if_neg h0]
    have h0' : (asI x 2 == 0) = false := by rw [beq_eq_false_iff_ne]; exact h0
    generalize asI x 2 = E at *
    generalize x.t = t at *
    generalize x.k = k at *
    generalize x.p.length = n2 at *
    generalize x.s.length = n3 at *
    go_enter Try.func8, Try.ntmps8
    go_wp2_with fail
    refine (HC.out _ (((Below.refl _ w).alloc (Nat.le_refl _) _).alloc (by simp) _)).mono ?_
    rintro e w1 ⟨rfl, hb1⟩
    obtain ⟨hc, hf⟩ := bcell hb1
    have hz : w.heap.size + 1 < w1.heap.size := by have := hb1.size; simp at this; omega
    have hB1 : Below w.heap.size w w1 := (((Below.refl _ w).alloc (Nat.le_refl _) _).alloc (by simp) _).trans (hb1.mono (by simp; omega))
    go_wp2_with fail
    refine bodyPost_ret (v := .tuple #[.agg #[.int .i64 0, .string ⟨#[]⟩, .slice none 0 0, .slice none 0 0, .slice none 0 0], .int .i64 E]) (by simp [results, Try.results8, go_sem, hc]) rfl ⟨_, rfl, fun w'' _ => zero_is w'', ?_⟩
    go_grown

set_option maxRecDepth 100000 in
set_option maxHeartbeats 4000000 in
theorem listRange_any (v : Value) (x : Itm) (from_ to_ : Int) (w : World) (h : ItemIs w v x) (hf1 : -9223372036854775808 ≤ from_) (ht1 : -9223372036854775808 ≤ to_) (hf2 : from_ ≤ 9223372036854775807) (ht2 : to_ ≤ 9223372036854775807) :
    Calls Try.prog 7 #[v, .int .i64 from_, .int .i64 to_] w fun e w' => ∃ a c, e = .returned (.tuple #[.slice a (trimI x from_ to_).l.length c, .int .i64 (asI x 2)]) ∧ TextsAt w' a (trimI x from_ to_).l ∧ Below w.heap.size w w' := by
  have HT : Hid (∀ W, Below w.heap.size w W → Calls Try.prog 8 #[v, .int .i64 from_, .int .i64 to_] W fun e w' => ∃ u, e = .returned (.tuple #[u, .int .i64 (asI x 2)]) ∧ ItemFrom W.heap.size w' u (trimI x from_ to_) ∧ Below W.heap.size W w') := fun W hW => trim_any v x from_ to_ W (h.below hW) hf1 ht1 hf2 ht2
  obtain ⟨⟨a1, c1, a2, c2, a3, c3, rfl, -, -, -⟩, -, -, -, -, -, -, -⟩ := h
  generalize trimI x from_ to_ = Y at *
  generalize asI x 2 = E at *
  generalize x.k = k at *
  generalize x.t = t at *
  generalize x.l.length = n1 at *
  generalize x.p.length = n2 at *
  generalize x.s.length = n3 at *
  go_enter Try.func7, Try.ntmps7
  go_wp2_with fail
  refine (HT.out _ ((Below.refl _ w).alloc (Nat.le_refl _) _)).mono ?_
  rintro e w1 ⟨u, rfl, hI, hb1⟩
  have B1 : Below w.heap.size w w1 := ((Below.refl _ w).alloc (Nat.le_refl _) _).trans (hb1.mono (by simp))
  obtain ⟨⟨i1, j1, i2, j2, i3, j3, rfl, ht, -, -⟩, -, -, -, -, -, -, -⟩ := hI.is
  have HTT := hide ht
  clear hI ht
  go_wp2_with fail
  go_ret2
  exact ⟨i1, j1, rfl, HTT.out.below ((Below.refl _ _).alloc (Nat.le_refl _) _), B1.alloc B1.size _⟩
end Go.Proofs.Ytolpmaapdkhigac
