/- WALK of Feed. -/
import Derived.Test.YtolpmaapdkhigaaDoorRunFeed
namespace Go.Proofs.YtolpmaapdkhigaaDoor
open Go.RowKit

/-- what Feed answers, as a plain function -/
def pFeedR (l : List UInt8) : List (List (List UInt8)) × List UInt8 × Nat :=
  if (pFeed l).2.2 = 0 ∨ (pFeed l).2.2 = 8 then ((pFeed l).1, (pFeed l).2.1, 0) else ((pFeed l).1, [], (pFeed l).2.2)

theorem Cmds.base {b1 b2 : Nat} {w : World} {V : Value} {L : List (List (List UInt8))} (h : Cmds b1 w V L) (hb : b2 ≤ b1) : Cmds b2 w V L := by
  obtain ⟨vs, h1, h2⟩ := h
  refine ⟨vs, ownsRow_base h1 hb, fun i hi => ?_⟩
  obtain ⟨v, h3, h4⟩ := h2 i hi
  exact ⟨v, h3, ownsRow_base h4 hb⟩

set_option maxRecDepth 100000 in
set_option maxHeartbeats 1000000 in
theorem over_any (s : ByteArray) (w : World) :
    Calls Tryd.prog 26 #[.string s] w fun e w' => e = .returned (.pointer (some ⟨w.heap.size, 0, none⟩)) ∧ w' = w.alloc (.cells #[.string s, .int .i64 0] 72) := by
  go_enter Tryd.func26, Tryd.ntmps26
  go_wp2
  go_ret
  exact ⟨rfl, rfl⟩

theorem runFeed_any (pw pc pt b : Nat) (s : ByteArray) (l : List UInt8) (w : World) (h : AtL b s l w) (hs : s.size ≤ 33554432)
    (hpw : w.cell? ⟨pw, 0, none⟩ = some (.pointer (some ⟨b, 0, none⟩))) (hpc : w.cell? ⟨pc, 0, none⟩ = some (.slice none 0 0)) (hpt : w.cell? ⟨pt, 0, none⟩ = some (.int .i64 ((s.size - l.length : Nat) : Int)))
    (hfc : w.frozen? ⟨pc, 0, none⟩ = false) (hft : w.frozen? ⟨pt, 0, none⟩ = false)
    (d1 : pw ≠ b) (d2 : pc ≠ b) (d3 : pt ≠ b) (d4 : pw ≠ pc) (d5 : pw ≠ pt) (d6 : pc ≠ pt) :
    Calls Tryd.prog 23 #[.func (.func 31) #[] #[.pointer (some ⟨pw, 0, none⟩), .pointer (some ⟨pc, 0, none⟩), .pointer (some ⟨pt, 0, none⟩)]] w fun e w' => e = .returned (.int .i64 (pFeed l).2.2) ∧ Kept (three b pc pt) w w' ∧
      ∃ V, w'.cell? ⟨pc, 0, none⟩ = some V ∧ Cmds w.heap.size w' V (pFeed l).1 ∧ w'.cell? ⟨pt, 0, none⟩ = some (.int .i64 ((s.size - (pFeed l).2.1.length : Nat) : Int)) := by
  have hbl := h.lt
  have hpcl := World.block_lt_of_cell? w _ hpc
  have hptl := World.block_lt_of_cell? w _ hpt
  have hpwl := World.block_lt_of_cell? w _ hpw
  simp only at hpcl hptl hpwl
  have ka : Kept (fun _ => False) w (w.alloc (.cells #[.int .i64 0] 25)) := (Kept.refl _ w).alloc _
  have H := feedLoop_any pw pc pt b s l (w.alloc (.cells #[.int .i64 0] 25)) (h.alloc _) hs (ka.cell' hpw (fun e => e)) (ka.cell' hpc (fun e => e)) (ka.cell' hpt (fun e => e))
    ((ka.frozen (p := ⟨pc, 0, none⟩) hpcl (fun e => e)).trans hfc) ((ka.frozen (p := ⟨pt, 0, none⟩) hptl (fun e => e)).trans hft) d1 d2 d3 d4 d5 d6
  have hS : ¬ three b pc pt w.heap.size := by simp only [three]; omega
  have fin : ∀ w1 w', (∃ V, w1.cell? ⟨pc, 0, none⟩ = some V ∧ Cmds (w.heap.size + 1) w1 V (pFeed l).1 ∧ w1.cell? ⟨pt, 0, none⟩ = some (.int .i64 ((s.size - (pFeed l).2.1.length : Nat) : Int))) →
      Kept (three b pc pt) w w1 → Kept (one w.heap.size) w1 w' → Kept (three b pc pt) w w' ∧
      ∃ V, w'.cell? ⟨pc, 0, none⟩ = some V ∧ Cmds w.heap.size w' V (pFeed l).1 ∧ w'.cell? ⟨pt, 0, none⟩ = some (.int .i64 ((s.size - (pFeed l).2.1.length : Nat) : Int)) := by
    rintro w1 w' ⟨V, c1, c2, c3⟩ k1 k2
    refine ⟨?_, V, k2.cell' c1 (fun e => by simp only [one] at e; omega), (c2.kept k2 (fun k e => by simp only [one] at e; omega)).base (by omega), k2.cell' c3 (fun e => by simp only [one] at e; omega)⟩
    have k3 : Kept (fun k => three b pc pt k ∨ k = w.heap.size) w w' := (k1.mono (fun k _ e => .inl e)).trans (k2.mono (fun k _ e => .inr e))
    exact k3.mono (fun k hk e => by rcases e with e | e; exact e; omega)
  by_cases hc : (pFeed l).2.2 = 0
  · refine (runFeed_ok _ (three b pc pt) (fun w1 => ∃ V, w1.cell? ⟨pc, 0, none⟩ = some V ∧ Cmds (w.heap.size + 1) w1 V (pFeed l).1 ∧ w1.cell? ⟨pt, 0, none⟩ = some (.int .i64 ((s.size - (pFeed l).2.1.length : Nat) : Int))) w hS (H.mono ?_)).mono ?_
    · rintro e w1 ⟨k1, V, c1, c2, c3, c4, _⟩
      exact ⟨c4 hc, k1, V, c1, by simpa using c2, c3⟩
    · rintro e w' ⟨rfl, w1, hR, k1, k2⟩
      rw [hc]
      exact ⟨rfl, fin w1 w' hR k1 k2⟩
  · refine (runFeed_err (pFeed l).2.2 _ (three b pc pt) (fun w1 => ∃ V, w1.cell? ⟨pc, 0, none⟩ = some V ∧ Cmds (w.heap.size + 1) w1 V (pFeed l).1 ∧ w1.cell? ⟨pt, 0, none⟩ = some (.int .i64 ((s.size - (pFeed l).2.1.length : Nat) : Int))) w hS (H.mono ?_)).mono ?_
    · rintro e w1 ⟨k1, V, c1, c2, c3, _, c4⟩
      exact ⟨c4 _ hc rfl, k1, V, c1, by simpa using c2, c3⟩
    · rintro e w' ⟨rfl, w1, hR, k1, k2⟩
      exact ⟨rfl, fin w1 w' hR k1 k2⟩

set_option maxRecDepth 100000 in
set_option maxHeartbeats 1000000 in
theorem feed_any (rest s : ByteArray) (w : World) (hs : rest.size + s.size ≤ 33554432) :
    Calls Tryd.prog 15 #[.string rest, .string s] w fun e w' => ∃ V, e = .returned (.tuple #[V, .string ⟨(pFeedR (rest.data.toList ++ s.data.toList)).2.1.toArray⟩, .int .i64 (pFeedR (rest.data.toList ++ s.data.toList)).2.2]) ∧
      Cmds w.heap.size w' V (pFeedR (rest.data.toList ++ s.data.toList)).1 ∧ Below w.heap.size w w' := by
  have hmf : ∀ (fn : Fn) (first cap : Array Value) (w : World), (Instr.makeFunc fn first cap).run Tryd.prog w = .ok (.func fn first cap) w := fun _ _ _ _ => rfl
  have hsz : (rest ++ s).size ≤ 33554432 := by rw [ByteArray.size_append]; exact hs
  have hl := list_append rest s
  rw [← hl]
  clear hl
  obtain ⟨st, hst⟩ : ∃ st, rest ++ s = st := ⟨_, rfl⟩
  rw [hst] at hsz ⊢
  go_enter Tryd.func15, Tryd.ntmps15
  go_wp2_with (go_at_call 26; refine (over_any _ _).mono ?_; rintro e w' ⟨rfl, rfl⟩)
  clear hst hs
  have hmx : st.size ≤ maxLen := by unfold maxLen; omega
  have hA : AtL w.heap.size st st.data.toList ((((w.alloc (.cells #[.string st, .int .i64 0] 72)).alloc (.cells #[.pointer (some ⟨w.heap.size, 0, none⟩)] 56)).alloc (.cells #[.slice none 0 0] 36)).alloc (.cells #[.int .i64 0] 3)) := by
    refine ⟨⟨by simp [go_sem], ?_, by simp [go_sem], by omega, hmx⟩, List.suffix_refl _⟩
    rw [size_list, Nat.sub_self]
    simp [go_sem]
  have hR := runFeed_any (w.heap.size + 1) (w.heap.size + 1 + 1) (w.heap.size + 1 + 1 + 1) w.heap.size st st.data.toList _ hA hsz (by simp [go_sem]) (by simp [go_sem]) (by rw [size_list, Nat.sub_self]; simp [go_sem]) (by simp [go_sem]) (by simp [go_sem]) (by omega) (by omega) (by omega) (by omega) (by omega) (by omega)
  refine hR.mono ?_
  rintro e w1 ⟨rfl, hk1, V, hcV, hC, hct⟩
  clear hR hA
  have hsuf := pFeed_suffix st.data.toList
  have hcode := pFeed_code st.data.toList
  have hb1 : Below w.heap.size w w1 := by
    have h1 : Below w.heap.size ((((w.alloc (.cells #[.string st, .int .i64 0] 72)).alloc (.cells #[.pointer (some ⟨w.heap.size, 0, none⟩)] 56)).alloc (.cells #[.slice none 0 0] 36)).alloc (.cells #[.int .i64 0] 3)) w1 :=
      hk1.below (by simp; omega) (fun k e => by simp only [three] at e; omega)
    exact (((((Below.refl _ w).alloc (Nat.le_refl _) _).alloc (by simp) _).alloc (by simp; omega) _).alloc (by simp; omega) _).trans h1
  have hC1 : Cmds w.heap.size w1 V (pFeed st.data.toList).1 := hC.base (by simp; omega)
  have hwl : w.heap.size ≤ w1.heap.size := hb1.size
  have hfr : ∀ x, pFeedR st.data.toList = x → (∃ V', Ending.returned (.tuple #[V, .string ⟨x.2.1.toArray⟩, .int .i64 x.2.2]) = .returned (.tuple #[V', .string ⟨(pFeedR st.data.toList).2.1.toArray⟩, .int .i64 (pFeedR st.data.toList).2.2])) := fun x hx => ⟨V, by rw [hx]⟩
  clear hfr hk1 hC
  generalize hP : pFeed st.data.toList = P at *
  obtain ⟨L, left, code⟩ := P
  simp only at hcode hct hC1 hsuf
  have hsl : ∀ W, (Instr.slice 9 (.string st) (some (.int .i64 (st.size - left.length : Nat))) none none).run Tryd.prog W = .ok (.string ⟨left.toArray⟩) W := by
    intro W
    rw [run_slice_string_from_if (P := Tryd.prog) W 9 st .i64 _ Tryd.underlying9, if_pos (by omega), Int.toNat_natCast, extract_suffix_all hsuf]
  have hsz2 : (ByteArray.mk left.toArray).size ≤ 281474976710656 := by
    rw [size_mk]
    have h2 : left.length ≤ st.size := by rw [← size_list]; exact hsuf.length_le
    omega
  have HZ := hide hsz2
  have HP := hide hP
  clear hsz2 hP hsuf
  have hgood : code = 0 ∨ code = 8 → Hid (pFeedR st.data.toList = (L, left, 0)) := fun hc => by
    simp only [Hid, pFeedR, HP.out]
    rw [if_pos hc]
  have hbad : code = 1 ∨ code = 2 → Hid (pFeedR st.data.toList = (L, [], code)) := fun hc => by
    simp only [Hid, pFeedR, HP.out]
    rw [if_neg (by omega)]
  clear HP
  rcases hcode with rfl | rfl | rfl | rfl
  · have HR := hgood (.inl rfl)
    clear hgood hbad
    go_wp2
    go_region_held3 (fun w' => w'.cell? ⟨w.heap.size + 1 + 1, 0, none⟩ = some V ∧ w'.cell? ⟨w.heap.size + 1 + 1 + 1, 0, none⟩ = some (.int .i64 (st.size - left.length : Nat))) (go_keep)
      ((go_at_call 35; refine (clone_any _ _ (unhide HZ)).mono ?_; rintro e w2 ⟨rfl, hb2⟩; have hcV2 : w2.cell? ⟨w.heap.size + 1 + 1, 0, none⟩ = some V := (Kept.of_below hb2 (fun _ => False)).cell' hcV (fun e => e); have hct2 : w2.cell? ⟨w.heap.size + 1 + 1 + 1, 0, none⟩ = some (.int .i64 (st.size - left.length : Nat)) := (Kept.of_below hb2 (fun _ => False)).cell' hct (fun e => e)))
    all_goals
      go_wp2
      go_ret3
      rw [HR.out]
      have hk2 : Kept (fun _ => False) w1 w2 := ⟨hb2.os, hb2.tape, hb2.output, hb2.size, fun k hk _ => hb2.block k hk⟩
      exact ⟨V, rfl, hC1.kept hk2 (fun _ e => e.elim), hb1.trans (hk2.below hwl (fun _ e => e.elim))⟩
  · have HR := hbad (.inl rfl)
    clear hgood hbad
    go_wp2
    go_ret3
    rw [HR.out]
    exact ⟨V, rfl, hC1, hb1⟩
  · have HR := hbad (.inr rfl)
    clear hgood hbad
    go_wp2
    go_ret3
    rw [HR.out]
    exact ⟨V, rfl, hC1, hb1⟩
  · have HR := hgood (.inr rfl)
    clear hgood hbad
    go_wp2
    go_region_held3 (fun w' => w'.cell? ⟨w.heap.size + 1 + 1, 0, none⟩ = some V ∧ w'.cell? ⟨w.heap.size + 1 + 1 + 1, 0, none⟩ = some (.int .i64 (st.size - left.length : Nat))) (go_keep)
      ((go_at_call 35; refine (clone_any _ _ (unhide HZ)).mono ?_; rintro e w2 ⟨rfl, hb2⟩; have hcV2 : w2.cell? ⟨w.heap.size + 1 + 1, 0, none⟩ = some V := (Kept.of_below hb2 (fun _ => False)).cell' hcV (fun e => e); have hct2 : w2.cell? ⟨w.heap.size + 1 + 1 + 1, 0, none⟩ = some (.int .i64 (st.size - left.length : Nat)) := (Kept.of_below hb2 (fun _ => False)).cell' hct (fun e => e)))
    all_goals
      go_wp2
      go_ret3
      rw [HR.out]
      have hk2 : Kept (fun _ => False) w1 w2 := ⟨hb2.os, hb2.tape, hb2.output, hb2.size, fun k hk _ => hb2.block k hk⟩
      exact ⟨V, rfl, hC1.kept hk2 (fun _ e => e.elim), hb1.trans (hk2.below hwl (fun _ e => e.elim))⟩
end Go.Proofs.YtolpmaapdkhigaaDoor
