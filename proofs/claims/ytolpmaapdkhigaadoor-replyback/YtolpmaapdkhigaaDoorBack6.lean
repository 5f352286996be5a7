/- WALK of replyBegun. -/
import Derived.Test.YtolpmaapdkhigaaDoorBack5
import Derived.Handy
namespace Go.Proofs.YtolpmaapdkhigaaDoor
open Go.RowKit

def threeReps : List Rep := [⟨4, ⟨#[97, 13, 10]⟩, 0, none, 0, 0⟩, ⟨5, ⟨#[]⟩, 0, none, 0, 0⟩, ⟨3, ⟨#[]⟩, -5, none, 0, 0⟩]
def theTop (g : Nat) : Top := ⟨6, ⟨#[]⟩, 0, some ⟨g, 0, none⟩, 3, threeReps⟩
def repString : ByteArray := ⟨#[42, 51, 13, 10, 36, 51, 13, 10, 97, 13, 10, 13, 10, 36, 45, 49, 13, 10, 58, 45, 53, 13, 10]⟩
theorem theTop_check (g : Nat) : (theTop g).check = 0 := by
  show pCheck 6 ⟨#[]⟩ 0 threeReps = 0
  decide +kernel
theorem theTop_enc (g : Nat) : (⟨(theTop g).enc.toArray⟩ : ByteArray) = repString := by
  show (⟨(pEnc 6 ⟨#[]⟩ 0 threeReps).toArray⟩ : ByteArray) = repString
  decide +kernel

def cells12 : Array Value := #[.int .i64 4, .string ⟨#[97, 13, 10]⟩, .int .i64 0, .slice none 0 0, .int .i64 5, .string ⟨#[]⟩, .int .i64 0, .slice none 0 0, .int .i64 3, .string ⟨#[]⟩, .int .i64 (-5), .slice none 0 0]
def cellsTop (g : Nat) : Array Value := #[.int .i64 6, .string ⟨#[]⟩, .int .i64 0, .slice (some ⟨g, 0, none⟩) 3 3]
theorem threeReps_at {w : World} {g T : Nat} (h : w.heap[g]? = some (.cells cells12 T)) : Reps w g 0 threeReps := by
  refine ⟨fun i hi => ?_, fun i hi => ?_, fun i hi => ?_, fun i hi => ?_, fun r hr => ?_⟩
  · match i, hi with
    | 0, _ => simp [World.cell?, h, cells12, threeReps]
    | 1, _ => simp [World.cell?, h, cells12, threeReps]
    | 2, _ => simp [World.cell?, h, cells12, threeReps]
  · match i, hi with
    | 0, _ => simp [World.cell?, h, cells12, threeReps]
    | 1, _ => simp [World.cell?, h, cells12, threeReps]
    | 2, _ => simp [World.cell?, h, cells12, threeReps]
  · match i, hi with
    | 0, _ => simp [World.cell?, h, cells12, threeReps]
    | 1, _ => simp [World.cell?, h, cells12, threeReps]
    | 2, _ => simp [World.cell?, h, cells12, threeReps]
  · match i, hi with
    | 0, _ => simp [World.cell?, h, cells12, threeReps]
    | 1, _ => simp [World.cell?, h, cells12, threeReps]
    | 2, _ => simp [World.cell?, h, cells12, threeReps]
  · simp [threeReps] at hr
    rcases hr with rfl | rfl | rfl <;> simp [ByteArray.size, maxLen]
theorem begin2 (w : World) (he : Env w) (T : Nat) (W : World) (hW : W = (w.alloc (.cells cells12 T)).alloc (.cells (cellsTop w.heap.size) 24)) :
    (theTop w.heap.size).Lies W ∧ W.heap[w.heap.size + 1]? = some (.cells (cellsTop w.heap.size) 24) ∧ Env W ∧ Below w.heap.size w W ∧ W.heap.size = w.heap.size + 2 := by
  subst hW
  have hB : Below w.heap.size w ((w.alloc (.cells cells12 T)).alloc (.cells (cellsTop w.heap.size) 24)) := ((Below.refl _ w).alloc (Nat.le_refl _) _).alloc (by simp) _
  have e1 : (w.alloc (.cells cells12 T)).heap.size = w.heap.size + 1 := by simp
  have h1 := heap_alloc_new (w.alloc (.cells cells12 T)) (.cells (cellsTop w.heap.size) 24)
  rw [e1] at h1
  have h0 : ((w.alloc (.cells cells12 T)).alloc (.cells (cellsTop w.heap.size) 24)).heap[w.heap.size]? = some (.cells cells12 T) := (Below.heap_alloc _ _ _ (by simp)).trans (heap_alloc_new w _)
  exact ⟨⟨.inr ⟨w.heap.size, 0, rfl, threeReps_at h0⟩, show (⟨#[]⟩ : ByteArray).size ≤ maxLen by decide⟩, h1, he.below hB, hB, by simp⟩
theorem encBegun (g : Nat) (w : World) (he : Env w) (hx : (theTop g).Lies w) :
    Calls Tryd.prog 7 #[.agg (cellsTop g)] w fun e w' => e = .returned (.tuple #[.string repString, .int .i64 0]) ∧ Below w.heap.size w w' := by
  have := encTop_ok (theTop g) w he hx (theTop_check g)
  rw [theTop_enc] at this
  exact this
theorem decBegun (g : Nat) (w : World) (he : Env w) :
    Calls Tryd.prog 8 #[.string repString] w fun e w' => ∃ y : Top, e = .returned (.tuple #[y.val, .int .i64 0]) ∧ y.Lies w' ∧ y.got = (theTop g).got ∧ y.check = 0 ∧ Below w.heap.size w w' := by
  have := decTop (theTop g) w he (theTop_check g)
  rw [theTop_enc] at this
  exact this
theorem chkBegun (g : Nat) (w : World) (hx : (theTop g).Lies w) :
    Calls Tryd.prog 13 #[.agg (cellsTop g)] w fun e w' => e = .returned (.int .i64 0) ∧ Below w.heap.size w w' := by
  have := checkTop (theTop g) w hx
  rw [theTop_check] at this
  exact this

set_option maxRecDepth 100000 in
set_option maxHeartbeats 2000000 in
theorem replyBegun_any (w : World) (he : Env w) :
    Calls Tryd.prog 12 #[] w fun e w' => e = .returned (.bool true) ∧ Below w.heap.size w w' := by
  have htl : repString.toList = [42, 51, 13, 10, 36, 51, 13, 10, 97, 13, 10, 13, 10, 36, 45, 49, 13, 10, 58, 45, 53, 13, 10] := by decide +kernel
  go_enter Tryd.func12, Tryd.ntmps12
  go_wp2_with fail
  generalize hW : World.alloc _ _ = W
  obtain ⟨b1, b2, b3, b4, b5⟩ := begin2 w he _ W hW.symm
  clear hW
  refine (encBegun w.heap.size W b3 b1).mono ?_
  rintro e w1 ⟨rfl, hb1⟩
  have hl1 := b1.below hb1
  have he1 := b3.below hb1
  have hB1 := (hb1.block (w.heap.size + 1) (by omega)).trans b2
  have hs1 := hb1.size
  have hbw1 : Below w.heap.size w w1 := b4.trans (hb1.mono (by omega))
  have HE1 := hide he1
  have HL1 := hide hl1
  have HB1 := hide hB1
  clear b1 b2 b3 b4 hb1 hl1 he1 hB1 he
  go_wp2_with fail
  refine (decBegun w.heap.size w1 HE1.out).mono ?_
  rintro e w2 ⟨y, rfl, hy, hyg, hyc, hb2⟩
  have hl2 := HL1.out.below hb2
  have hB2 := (hb2.block (w.heap.size + 1) (by omega)).trans HB1.out
  have hs2 := hb2.size
  have hbw2 : Below w.heap.size w w2 := hbw1.trans (hb2.mono (by omega))
  have HY := hide hy
  have HL2 := hide hl2
  have HYG := hide hyg
  have HYC := hide hyc
  obtain ⟨c0, c1, c2, c3, f0, f1, f2, f3⟩ := four_of hB2
  have HC2 : Hid (∀ o, Calls Tryd.prog 13 #[.agg (cellsTop w.heap.size)] (w2.alloc o) fun e w' => e = .returned (.int .i64 0) ∧ Below (w2.alloc o).heap.size (w2.alloc o) w') := fun o => chkBegun _ _ (hl2.below ((Below.refl _ w2).alloc (Nat.le_refl _) o))
  have HS : Hid (∀ w3, Below w2.heap.size w2 w3 → Calls Tryd.prog 14 #[y.val, .agg (cellsTop w.heap.size)] w3 fun e w' => e = .returned (.bool true) ∧ Below w3.heap.size w3 w') := fun w3 h3 => same_any y (theTop w.heap.size) w3 (hy.below h3) (hl2.below h3) hyc (theTop_check _) hyg
  obtain ⟨k, t, n, a, cap, rs⟩ := y
  simp only [Top.val] at HS
  simp only [Top.val]
  clear HE1 HL1 HB1 hl2 hB2 hb2 hyg hyc hy HL2 HYG HYC HY f0 f1 f2 f3
  unfold cellsTop at HC2 HS
  have k0 : ∀ o, (w2.alloc o).cell? ⟨w.heap.size + 1, 0, none⟩ = some (.int .i64 6) := fun o => ((Kept.refl (fun _ => False) w2).alloc o).cell' c0 (fun e => e)
  have k1 : ∀ o, (w2.alloc o).cell? ⟨w.heap.size + 1, 1, none⟩ = some (.string ⟨#[]⟩) := fun o => ((Kept.refl (fun _ => False) w2).alloc o).cell' c1 (fun e => e)
  have k2 : ∀ o, (w2.alloc o).cell? ⟨w.heap.size + 1, 2, none⟩ = some (.int .i64 0) := fun o => ((Kept.refl (fun _ => False) w2).alloc o).cell' c2 (fun e => e)
  have k3 : ∀ o, (w2.alloc o).cell? ⟨w.heap.size + 1, 3, none⟩ = some (.slice (some ⟨w.heap.size, 0, none⟩) 3 3) := fun o => ((Kept.refl (fun _ => False) w2).alloc o).cell' c3 (fun e => e)
  go_wp2_with fail
  refine (HC2.out _).mono ?_
  rintro e w3 ⟨rfl, hb3⟩
  have hs3 : w2.heap.size + 1 ≤ w3.heap.size := by have := hb3.size; simpa using this
  have d0 := (hb3.cell (p := ⟨w.heap.size + 1, 0, none⟩) (by simp; omega)).trans (k0 _)
  have d1 := (hb3.cell (p := ⟨w.heap.size + 1, 1, none⟩) (by simp; omega)).trans (k1 _)
  have d2 := (hb3.cell (p := ⟨w.heap.size + 1, 2, none⟩) (by simp; omega)).trans (k2 _)
  have d3 := (hb3.cell (p := ⟨w.heap.size + 1, 3, none⟩) (by simp; omega)).trans (k3 _)
  have hXB := (hb3.block w2.heap.size (by simp)).trans (heap_alloc_new w2 _)
  obtain ⟨e0, e1, e2, e3, f0, f1, f2, f3⟩ := four_of hXB
  have h23 : Below w2.heap.size w2 w3 := ((Below.refl _ w2).alloc (Nat.le_refl _) _).trans (hb3.mono (by simp))
  have HS3 := hide (HS.out w3 h23)
  clear k0 k1 k2 k3 c0 c1 c2 c3 hXB hb3 f0 f1 f2 f3 HC2 HS
  go_wp2_with fail
  refine HS3.out.mono ?_
  rintro e w4 ⟨rfl, hb4⟩
  go_wp2
  go_ret
  exact ⟨rfl, hbw2.trans ((h23.mono (by omega)).trans (hb4.mono (by omega)))⟩
end Go.Proofs.YtolpmaapdkhigaaDoor
