/- WALKS of pairs and scores out of bytes. -/
import Derived.Test.YtolpmaapdkhigabIDec1
import Derived.Handy
namespace Go.Proofs.Ytolpmaapdkhigab
open Go.RowKit

def ppair (l : List UInt8) : Option ((ByteArray × ByteArray) × List UInt8) := (pText l).bind fun x => (pText x.2).map fun y => ((x.1, y.1), y.2)
set_option maxRecDepth 100000 in
set_option maxHeartbeats 1000000 in
theorem pair_any (b : Nat) (s : ByteArray) (l : List UInt8) (w : World) (h : AtL b s l w) (hs : s.size ≤ 281474976710656) :
    Calls Try.prog 57 #[.pointer (some ⟨b, 0, none⟩)] w fun e w' => Kept (one b) w w' ∧ (ppair l = none → e = .panicked [{ v := .iface 92 (.agg #[.int .i64 (8)]), recovered := false }]) ∧ ∀ x r, ppair l = some (x, r) → e = .returned (.agg #[.string x.1, .string x.2]) ∧ AtL b s r w' := by
  have hbl := h.lt
  have hA := h.alloc (.cells #[.string ⟨#[]⟩, .string ⟨#[]⟩] 59)
  have K0 : Kept (one b) w (w.alloc (.cells #[.string ⟨#[]⟩, .string ⟨#[]⟩] 59)) := (Kept.refl _ _).alloc _
  have HA := hide hA
  have HK := hide K0
  have q0 : Hid ((w.alloc (.cells #[.string ⟨#[]⟩, .string ⟨#[]⟩] 59)).cell? ⟨w.heap.size, 0, none⟩ = some (.string ⟨#[]⟩)) := by simp [Hid, go_sem]
  have q1 : Hid ((w.alloc (.cells #[.string ⟨#[]⟩, .string ⟨#[]⟩] 59)).cell? ⟨w.heap.size, 1, none⟩ = some (.string ⟨#[]⟩)) := by simp [Hid, go_sem]
  have f0 : Hid ((w.alloc (.cells #[.string ⟨#[]⟩, .string ⟨#[]⟩] 59)).frozen? ⟨w.heap.size, 0, none⟩ = false) := by simp [Hid, go_sem]
  have f1 : Hid ((w.alloc (.cells #[.string ⟨#[]⟩, .string ⟨#[]⟩] 59)).frozen? ⟨w.heap.size, 1, none⟩ = false) := by simp [Hid, go_sem]
  have z0 : Hid (w.heap.size < (w.alloc (.cells #[.string ⟨#[]⟩, .string ⟨#[]⟩] 59)).heap.size) := by simp [Hid]
  clear hA K0 h
  have hne : ¬ one b w.heap.size := fun e => by simp only [one] at e; omega
  cases h1 : pText l with
  | none =>
    have HP : Hid (ppair l = none) := by rw [Hid, ppair, h1]; rfl
    have HE : Hid (∀ W, AtL b s l W → Calls Try.prog 55 #[.pointer (some ⟨b, 0, none⟩)] W fun e w' => e = .panicked [{ v := .iface 92 (.agg #[.int .i64 (8)]), recovered := false }] ∧ Kept (one b) W w') := fun W hW => text_err b s l W hW h1
    clear h1
    go_enter Try.func57, Try.ntmps57
    go_wp2_with fail
    refine (HE.out _ HA.out).mono ?_
    rintro e w1 ⟨rfl, hk1⟩
    refine ⟨rfl, HK.out.trans hk1, fun _ => rfl, fun x r hx => ?_⟩
    rw [HP.out] at hx
    cases hx
  | some y =>
    obtain ⟨y1, q⟩ := y
    have HO : Hid (∀ W, AtL b s l W → Calls Try.prog 55 #[.pointer (some ⟨b, 0, none⟩)] W fun e w' => e = .returned (.string y1) ∧ AtL b s q w' ∧ Kept (one b) W w') := fun W hW => text_ok b s l y1 q W hW hs h1
    cases h2 : pText q with
    | none =>
      have HP : Hid (ppair l = none) := by rw [Hid, ppair, h1]; simp [h2]
      have HE : Hid (∀ W, AtL b s q W → Calls Try.prog 55 #[.pointer (some ⟨b, 0, none⟩)] W fun e w' => e = .panicked [{ v := .iface 92 (.agg #[.int .i64 (8)]), recovered := false }] ∧ Kept (one b) W w') := fun W hW => text_err b s q W hW h2
      clear h1 h2
      go_enter Try.func57, Try.ntmps57
      go_wp2_with fail
      refine (HO.out _ HA.out).mono ?_
      rintro e w1 ⟨rfl, hA1, hk1⟩
      have A1 := hide hA1
      clear hA1
      go_wp2_with fail
      refine (HE.out _ A1.out).mono ?_
      rintro e w2 ⟨rfl, hk2⟩
      refine ⟨rfl, (HK.out.trans hk1).trans hk2, fun _ => rfl, fun x r hx => ?_⟩
      rw [HP.out] at hx
      cases hx
    | some z =>
      obtain ⟨z1, r⟩ := z
      have HP : Hid (ppair l = some ((y1, z1), r)) := by rw [Hid, ppair, h1]; simp [h2]
      have HO2 : Hid (∀ W, AtL b s q W → Calls Try.prog 55 #[.pointer (some ⟨b, 0, none⟩)] W fun e w' => e = .returned (.string z1) ∧ AtL b s r w' ∧ Kept (one b) W w') := fun W hW => text_ok b s q z1 r W hW hs h2
      clear h1 h2
      go_enter Try.func57, Try.ntmps57
      go_wp2_with fail
      refine (HO.out _ HA.out).mono ?_
      rintro e w1 ⟨rfl, hA1, hk1⟩
      have A1 := hide hA1
      clear hA1
      go_wp2_with fail
      refine (HO2.out _ A1.out).mono ?_
      rintro e w2 ⟨rfl, hA2, hk2⟩
      have A2 := hide hA2
      have K2 := hide (hk1.trans hk2)
      have b0 := K2.out.cell' q0.out hne
      have b1 := K2.out.cell' q1.out hne
      have g0 := (K2.out.frozen (p := ⟨w.heap.size, 0, none⟩) z0.out hne).trans f0.out
      have g1 := (K2.out.frozen (p := ⟨w.heap.size, 1, none⟩) z0.out hne).trans f1.out
      clear hA2 A1 hk1 hk2 q0 q1 f0 f1
      go_wp2_with fail
      refine bodyPost_ret (v := .agg #[.string y1, .string z1]) (by simp [results, Try.results57, go_sem, b0, b1]) rfl ⟨?_, fun hx => ?_, fun x r' hx => ?_⟩
      · exact ((HK.out.trans K2.out).setCell (p := ⟨w.heap.size, 0, none⟩) (Or.inr (Nat.le_refl _)) _).setCell (p := ⟨w.heap.size, 1, none⟩) (Or.inr (Nat.le_refl _)) _
      · rw [HP.out] at hx; cases hx
      · rw [HP.out] at hx
        injection hx with hx
        injection hx with e1 e2
        subst e1 e2
        exact ⟨rfl, (A2.out.setOther (g := w.heap.size) (by omega) _).setOther (g := w.heap.size) (by omega) _⟩

theorem number_some {l : List UInt8} {n : Int} {q : List UInt8} (h : pNum l = some (n, q)) : 4 ≤ l.length ∧ n = ((numTo l 4 : Nat) : Int) - 999999999 ∧ q = l.drop 4 := by
  unfold pNum at h
  split at h
  · rename_i h4
    injection h with h
    injection h with e1 e2
    exact ⟨h4, e1.symm, e2.symm⟩
  · cases h
theorem number_none {l : List UInt8} (h : pNum l = none) : l.length < 4 := by
  unfold pNum at h
  split at h
  · cases h
  · omega
theorem num_ok (b : Nat) (s : ByteArray) (l : List UInt8) (n : Int) (q : List UInt8) (w : World) (h : AtL b s l w) (hp : pNum l = some (n, q)) :
    Calls Try.prog 60 #[.pointer (some ⟨b, 0, none⟩)] w fun e w' => e = .returned (.int .i64 n) ∧ AtL b s q w' ∧ Kept (one b) w w' := by
  obtain ⟨h4, rfl, rfl⟩ := number_some hp
  exact number_ok b s l w h h4

def pscore (l : List UInt8) : Option ((Int × ByteArray) × List UInt8) := (pNum l).bind fun x => (pText x.2).map fun y => ((x.1, y.1), y.2)
set_option maxRecDepth 100000 in
set_option maxHeartbeats 1000000 in
theorem score_any (b : Nat) (s : ByteArray) (l : List UInt8) (w : World) (h : AtL b s l w) (hs : s.size ≤ 281474976710656) :
    Calls Try.prog 59 #[.pointer (some ⟨b, 0, none⟩)] w fun e w' => Kept (one b) w w' ∧ (pscore l = none → e = .panicked [{ v := .iface 92 (.agg #[.int .i64 (8)]), recovered := false }]) ∧ ∀ x r, pscore l = some (x, r) → e = .returned (.agg #[.int .i64 x.1, .string x.2]) ∧ AtL b s r w' := by
  have hbl := h.lt
  have hA := h.alloc (.cells #[.int .i64 0, .string ⟨#[]⟩] 61)
  have K0 : Kept (one b) w (w.alloc (.cells #[.int .i64 0, .string ⟨#[]⟩] 61)) := (Kept.refl _ _).alloc _
  have HA := hide hA
  have HK := hide K0
  have q0 : Hid ((w.alloc (.cells #[.int .i64 0, .string ⟨#[]⟩] 61)).cell? ⟨w.heap.size, 0, none⟩ = some (.int .i64 0)) := by simp [Hid, go_sem]
  have q1 : Hid ((w.alloc (.cells #[.int .i64 0, .string ⟨#[]⟩] 61)).cell? ⟨w.heap.size, 1, none⟩ = some (.string ⟨#[]⟩)) := by simp [Hid, go_sem]
  have f0 : Hid ((w.alloc (.cells #[.int .i64 0, .string ⟨#[]⟩] 61)).frozen? ⟨w.heap.size, 0, none⟩ = false) := by simp [Hid, go_sem]
  have f1 : Hid ((w.alloc (.cells #[.int .i64 0, .string ⟨#[]⟩] 61)).frozen? ⟨w.heap.size, 1, none⟩ = false) := by simp [Hid, go_sem]
  have z0 : Hid (w.heap.size < (w.alloc (.cells #[.int .i64 0, .string ⟨#[]⟩] 61)).heap.size) := by simp [Hid]
  clear hA K0 h
  have hne : ¬ one b w.heap.size := fun e => by simp only [one] at e; omega
  cases h1 : pNum l with
  | none =>
    have HP : Hid (pscore l = none) := by rw [Hid, pscore, h1]; rfl
    have HE : Hid (∀ W, AtL b s l W → Calls Try.prog 60 #[.pointer (some ⟨b, 0, none⟩)] W fun e w' => e = .panicked [{ v := .iface 92 (.agg #[.int .i64 (8)]), recovered := false }] ∧ Kept (one b) W w') := fun W hW => number_err b s l W hW (number_none h1)
    clear h1
    go_enter Try.func59, Try.ntmps59
    go_wp2_with fail
    refine (HE.out _ HA.out).mono ?_
    rintro e w1 ⟨rfl, hk1⟩
    refine ⟨rfl, HK.out.trans hk1, fun _ => rfl, fun x r hx => ?_⟩
    rw [HP.out] at hx
    cases hx
  | some y =>
    obtain ⟨y1, q⟩ := y
    have HO : Hid (∀ W, AtL b s l W → Calls Try.prog 60 #[.pointer (some ⟨b, 0, none⟩)] W fun e w' => e = .returned (.int .i64 y1) ∧ AtL b s q w' ∧ Kept (one b) W w') := fun W hW => num_ok b s l y1 q W hW h1
    cases h2 : pText q with
    | none =>
      have HP : Hid (pscore l = none) := by rw [Hid, pscore, h1]; simp [h2]
      have HE : Hid (∀ W, AtL b s q W → Calls Try.prog 55 #[.pointer (some ⟨b, 0, none⟩)] W fun e w' => e = .panicked [{ v := .iface 92 (.agg #[.int .i64 (8)]), recovered := false }] ∧ Kept (one b) W w') := fun W hW => text_err b s q W hW h2
      clear h1 h2
      go_enter Try.func59, Try.ntmps59
      go_wp2_with fail
      refine (HO.out _ HA.out).mono ?_
      rintro e w1 ⟨rfl, hA1, hk1⟩
      have A1 := hide hA1
      clear hA1
      go_wp2_with fail
      refine (HE.out _ A1.out).mono ?_
      rintro e w2 ⟨rfl, hk2⟩
      refine ⟨rfl, (HK.out.trans hk1).trans hk2, fun _ => rfl, fun x r hx => ?_⟩
      rw [HP.out] at hx
      cases hx
    | some z =>
      obtain ⟨z1, r⟩ := z
      have HP : Hid (pscore l = some ((y1, z1), r)) := by rw [Hid, pscore, h1]; simp [h2]
      have HO2 : Hid (∀ W, AtL b s q W → Calls Try.prog 55 #[.pointer (some ⟨b, 0, none⟩)] W fun e w' => e = .returned (.string z1) ∧ AtL b s r w' ∧ Kept (one b) W w') := fun W hW => text_ok b s q z1 r W hW hs h2
      clear h1 h2
      go_enter Try.func59, Try.ntmps59
      go_wp2_with fail
      refine (HO.out _ HA.out).mono ?_
      rintro e w1 ⟨rfl, hA1, hk1⟩
      have A1 := hide hA1
      clear hA1
      go_wp2_with fail
      refine (HO2.out _ A1.out).mono ?_
      rintro e w2 ⟨rfl, hA2, hk2⟩
      have A2 := hide hA2
      have K2 := hide (hk1.trans hk2)
      have b0 := K2.out.cell' q0.out hne
      have b1 := K2.out.cell' q1.out hne
      have g0 := (K2.out.frozen (p := ⟨w.heap.size, 0, none⟩) z0.out hne).trans f0.out
      have g1 := (K2.out.frozen (p := ⟨w.heap.size, 1, none⟩) z0.out hne).trans f1.out
      clear hA2 A1 hk1 hk2 q0 q1 f0 f1
      go_wp2_with fail
      refine bodyPost_ret (v := .agg #[.int .i64 y1, .string z1]) (by simp [results, Try.results59, go_sem, b0, b1]) rfl ⟨?_, fun hx => ?_, fun x r' hx => ?_⟩
      · exact ((HK.out.trans K2.out).setCell (p := ⟨w.heap.size, 0, none⟩) (Or.inr (Nat.le_refl _)) _).setCell (p := ⟨w.heap.size, 1, none⟩) (Or.inr (Nat.le_refl _)) _
      · rw [HP.out] at hx; cases hx
      · rw [HP.out] at hx
        injection hx with hx
        injection hx with e1 e2
        subst e1 e2
        exact ⟨rfl, (A2.out.setOther (g := w.heap.size) (by omega) _).setOther (g := w.heap.size) (by omega) _⟩
end Go.Proofs.Ytolpmaapdkhigab
