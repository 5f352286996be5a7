/- Part 9 of what the proof leans on: EDed2. -/
import Derived.Test.YtmaancidkpfopaaGreatDoorPart1
import Derived.Test.YtmaancidkpfopaaGreatDoorPart2
import Derived.Test.YtmaancidkpfopaaGreatDoorPart3
import Derived.Test.YtmaancidkpfopaaGreatDoorPart4
import Derived.Test.YtmaancidkpfopaaGreatDoorPart5
import Derived.Test.YtmaancidkpfopaaGreatDoorPart7
import Derived.Test.YtmaancidkpfopaaGreatDoorPart8
import Derived.Test.YtmaancidkpfopaaGreatDoorPart6
import Derived.Handy
/- WALKS: deeds that put: persist, set. -/
namespace Go.Proofs.YtmaancidkpfopaaGreatDoor
open Go.RowKit

theorem KeepAt.lt {w : World} {b : Nat} {s : List Ent} {now : Int} (h : KeepAt w b s now) : b < w.heap.size := by
  obtain ⟨⟨a, c, hh, _⟩, _⟩ := h
  exact (Array.getElem?_eq_some_iff.1 hh).1
/-- what lies above the first block of the reply is nobody's: a store into the reply's box leaves the keeper -/
theorem KeepS.box {S : Nat → Prop} {B : Nat} {w1 w2 : World} {b : Nat} {s : List Ent} {now : Int} (h : KeepS (fun k => S k ∨ k = B) w1 b s now) (hk : Kept (one B) w1 w2) : KeepS S w2 b s now := by
  intro w' hag
  refine h w' (fun k h1 h2 => (hag k (Nat.lt_of_lt_of_le h1 hk.size) (fun h => h2 (.inl h))).trans (hk.block k h1 (fun h => h2 (.inr h))))
set_option maxRecDepth 100000 in
set_option maxHeartbeats 8000000 in
theorem persist_no (S : Nat → Prop) (b : Nat) (s : List Ent) (now : Int) (g0 o0 cl n : Nat) (x : ByteArray) (w : World) (h : KeepS S w b s now) (hx : w.cell? ⟨g0, o0, none⟩ = some (.string x)) (hU : untilR s now x = 0) :
    Calls Tryz.prog 68 #[.pointer (some ⟨b, 0, none⟩), .slice (some ⟨g0, o0, none⟩) (n + 1) cl] w fun e w' => e = .returned (.tuple #[.agg #[.int .i64 3, .string ⟨#[]⟩, .int .i64 0, .slice none 0 0], .int .i64 0]) ∧ KeepS S w' b s now ∧ Kept (one b) w w' := by
  have hk := h.at
  have HK := hide h
  have HU := hide (fun W (hW : Below w.heap.size w W) => keepUntil_any b s now x W (hk.below hW))
  rw [hU] at HU
  have HN := hide numberReply_any
  unfold repV at HN
  have hpos : (0 : Int) < ((n : Nat) : Int) + 1 := by omega
  obtain ⟨V, hV, AV, RB⟩ : ∃ V, w.alloc (.cells #[.int .i64 0, .string ⟨#[]⟩, .int .i64 0, .slice none 0 0] 27) = V ∧ Below w.heap.size w V ∧ V.heap[w.heap.size]? = some (.cells #[.int .i64 0, .string ⟨#[]⟩, .int .i64 0, .slice none 0 0] 27) := ⟨_, rfl, (Below.refl _ w).alloc (Nat.le_refl _) _, by show (w.heap.push _)[w.heap.size]? = _; simp⟩
  have hxV := (AV.cell (World.block_lt_of_cell? _ _ hx)).trans hx
  have HRB := hide RB
  have HAV := hide AV
  clear hx hk h hU RB AV
  go_enter Tryz.func68, Tryz.ntmps68
  go_wp2_with fail
  refine (HU.out _ HAV.out).mono ?_
  rintro e w1 ⟨rfl, hb1⟩
  go_wp2_with fail
  refine (HN.out _ _).mono ?_
  rintro e w2 ⟨rfl, hb2⟩
  have hb12 := hb1.trans (hb2.mono hb1.size)
  have hz : w.heap.size < V.heap.size := (Array.getElem?_eq_some_iff.1 HRB.out).1
  have R2 : w2.heap[w.heap.size]? = some (.cells #[.int .i64 0, .string ⟨#[]⟩, .int .i64 0, .slice none 0 0] 27 (0, 0)) := (hb12.block _ hz).trans HRB.out
  have HP := hide (put4R R2 (.int .i64 3) (.string ⟨#[]⟩) (.int .i64 0) (.slice none 0 0))
  have HB : Hid (Below w.heap.size w w2) := HAV.out.trans (hb12.mono HAV.out.size)
  have m0 : w2.cell? ⟨w.heap.size, 0, none⟩ = some (.int .i64 0) := by simp [World.cell?, R2]
  have n0 : w2.frozen? ⟨w.heap.size, 0, none⟩ = false := by simp [World.frozen?, R2]
  have m1 : w2.cell? ⟨w.heap.size, 1, none⟩ = some (.string ⟨#[]⟩) := by simp [World.cell?, R2]
  have n1 : w2.frozen? ⟨w.heap.size, 1, none⟩ = false := by simp [World.frozen?, R2]
  have m2 : w2.cell? ⟨w.heap.size, 2, none⟩ = some (.int .i64 0) := by simp [World.cell?, R2]
  have n2 : w2.frozen? ⟨w.heap.size, 2, none⟩ = false := by simp [World.frozen?, R2]
  have m3 : w2.cell? ⟨w.heap.size, 3, none⟩ = some (.slice none 0 0) := by simp [World.cell?, R2]
  have n3 : w2.frozen? ⟨w.heap.size, 3, none⟩ = false := by simp [World.frozen?, R2]
  clear R2 hb12 hb1 hb2 hV
  go_wp2_with fail
  obtain ⟨hH, hKp⟩ := HP.out
  generalize ((((w2.setCell ⟨w.heap.size, 0, none⟩ (.int .i64 3)).setCell ⟨w.heap.size, 1, none⟩ (.string ⟨#[]⟩)).setCell ⟨w.heap.size, 2, none⟩ (.int .i64 0)).setCell ⟨w.heap.size, 3, none⟩ (.slice none 0 0)) = V4 at *
  have hB4 : Below w.heap.size w V4 := HB.out.trans (hKp.below (B := w.heap.size) (by have := HB.out.size; omega) (fun k hk => by simp only [one] at hk; omega))
  refine bodyPost_ret (v := .tuple #[.agg #[.int .i64 3, .string ⟨#[]⟩, .int .i64 0, .slice none 0 0], .int .i64 0]) (by simp [results, Tryz.results68, go_sem, World.cell?, hH]) rfl ⟨rfl, HK.out.below hB4, Kept.of_below hB4 (one b)⟩
/-- a store into a block that was not there -/
theorem Kept.boxed {b : Nat} {w w1 w2 : World} (h : Kept (one b) w w1) (hk : Kept (one w.heap.size) w1 w2) : Kept (one b) w w2 :=
  ⟨hk.os.trans h.os, hk.tape.trans h.tape, hk.output.trans h.output, Nat.le_trans h.size hk.size, fun j h1 h2 => (hk.block j (Nat.lt_of_lt_of_le h1 h.size) (by simp only [one]; omega)).trans (h.block j h1 h2)⟩
theorem KeepS.more {S : Nat → Prop} {w w' : World} {b : Nat} {s : List Ent} {now : Int} (h : KeepS S w b s now) (hb : Below w.heap.size w w') : KeepS (fun k => S k ∨ k = w.heap.size) w' b s now :=
  fun w2 hag => h w2 (fun k h1 h2 => (hag k (Nat.lt_of_lt_of_le h1 hb.size) (fun h => by rcases h with h | h; exact h2 h; omega)).trans (hb.block k h1))
set_option maxRecDepth 100000 in
set_option maxHeartbeats 8000000 in
theorem persist_yes (S : Nat → Prop) (b : Nat) (s : List Ent) (now : Int) (g0 o0 cl n : Nat) (x : ByteArray) (w : World) (hS : ∀ k, S k → k < w.heap.size ∧ k ≠ b) (h : KeepS S w b s now) (hx : w.cell? ⟨g0, o0, none⟩ = some (.string x)) (hgb : g0 ≠ b) (hU : untilR s now x ≠ 0) :
    Calls Tryz.prog 68 #[.pointer (some ⟨b, 0, none⟩), .slice (some ⟨g0, o0, none⟩) (n + 1) cl] w fun e w' => e = .returned (.tuple #[.agg #[.int .i64 3, .string ⟨#[]⟩, .int .i64 1, .slice none 0 0], .int .i64 (putE s now x (getR s now x) 0)]) ∧ KeepS S w' b (keptS s now x (getR s now x) 0) now ∧ Kept (one b) w w' := by
  have hk := h.at
  have HU := hide (fun W (hW : Below w.heap.size w W) => keepUntil_any b s now x W (hk.below hW))
  have HI := hide (fun W (hW : Below w.heap.size w W) => keepItem_any b s now x W (hk.below hW))
  have HP := hide (fun W v (hW : Below w.heap.size w W) (hv : ItemIs W v (getR s now x)) => keepPut_any b s now x v (getR s now x) 0 W (hk.below hW) hv)
  have HKB := hide (fun W (hW : Below w.heap.size w W) => h.more hW)
  have HN := hide numberReply_any
  unfold repV at HN
  have hpos : (0 : Int) < ((n : Nat) : Int) + 1 := by omega
  have HBL := hide hk.lt
  have hlt := World.block_lt_of_cell? _ _ hx
  have HLT := hide hlt
  have HXX := hide hx
  have HX := hide (fun (W : World) (hW : Below w.heap.size w W) => (hW.cell (p := ⟨g0, o0, none⟩) hlt).trans hx)
  obtain ⟨V, hV, AV, RB⟩ : ∃ V, w.alloc (.cells #[.int .i64 0, .string ⟨#[]⟩, .int .i64 0, .slice none 0 0] 27) = V ∧ Below w.heap.size w V ∧ V.heap[w.heap.size]? = some (.cells #[.int .i64 0, .string ⟨#[]⟩, .int .i64 0, .slice none 0 0] 27) := ⟨_, rfl, (Below.refl _ w).alloc (Nat.le_refl _) _, by show (w.heap.push _)[w.heap.size]? = _; simp⟩
  have hxV := HX.out _ AV
  have HRB := hide RB
  have HAV := hide AV
  clear hx hk h RB AV hlt
  generalize keptS s now x (getR s now x) 0 = S2 at *
  generalize putE s now x (getR s now x) 0 = E at *
  generalize getR s now x = X at *
  generalize untilR s now x = U at *
  have hU' : (U == 0) = false := by rw [beq_eq_false_iff_ne]; exact hU
  go_enter Tryz.func68, Tryz.ntmps68
  go_wp2_with fail
  refine (HU.out _ HAV.out).mono ?_
  rintro e w1 ⟨rfl, hb1⟩
  have hz : w.heap.size < V.heap.size := (Array.getElem?_eq_some_iff.1 HRB.out).1
  have R1 : w1.drew.heap[w.heap.size]? = some (.cells #[.int .i64 0, .string ⟨#[]⟩, .int .i64 0, .slice none 0 0] 27 (0, 0)) := (hb1.block _ hz).trans HRB.out
  have HRD := hide R1
  have HZD := hide (Array.getElem?_eq_some_iff.1 R1).1
  have BD : Below w.heap.size w w1.drew := (HAV.out.trans (hb1.mono HAV.out.size)).drew
  clear R1 hb1 hz hV
  go_wp2_with fail
  refine wp_region_held_drew (S := (fun w' : World => w'.cell? ⟨g0, o0, none⟩ = some (.string x))) (by kernel_rfl) (HX.out _ BD) (fun hHeld => ?_)
  refine wpAnyH_take (i := 1) (v := .pointer (some ⟨b, 0, none⟩)) rfl (by kernel_rfl) (by kernel_rfl) (by kernel_rfl) (fun _ _ _ h => h) (Or.inl ⟨by kernel_rfl, by intro w hSw; (try dsimp only at hSw); go_simp⟩) (by assumption) ?_
  refine wpAnyH_take (i := 2) (v := .slice (some ⟨g0, o0, none⟩) (n + 1) cl) rfl (by kernel_rfl) (by kernel_rfl) (by kernel_rfl) (fun _ _ _ h => h) (Or.inl ⟨by kernel_rfl, by intro w hSw; (try dsimp only at hSw); go_simp⟩) (by assumption) ?_
  refine wpAnyH_take (i := 3) (v := .pointer (some ⟨g0, o0, none⟩)) rfl (by kernel_rfl) (by kernel_rfl) (by kernel_rfl) (fun _ _ _ h => h) (Or.inl ⟨by kernel_rfl, by intro w hSw; (try dsimp only at hSw); go_simp⟩) (by assumption) ?_
  refine wpAnyH_take (i := 4) (v := .string x) rfl (by kernel_rfl) (by kernel_rfl) (by kernel_rfl) (fun _ _ _ h => h) (Or.inl ⟨by kernel_rfl, by intro w hSw; (try dsimp only at hSw); go_simp⟩) (by assumption) ?_
  refine wpAnyH_take (i := 5) (v := .pointer (some ⟨b, 0, none⟩)) rfl (by kernel_rfl) (by kernel_rfl) (by kernel_rfl) (fun _ _ _ h => h) (Or.inl ⟨by kernel_rfl, by intro w hSw; (try dsimp only at hSw); go_simp⟩) (by assumption) ?_
  refine wpAnyH_take (i := 6) (v := .slice (some ⟨g0, o0, none⟩) (n + 1) cl) rfl (by kernel_rfl) (by kernel_rfl) (by kernel_rfl) (fun _ _ _ h => h) (Or.inl ⟨by kernel_rfl, by intro w hSw; (try dsimp only at hSw); go_simp⟩) (by assumption) ?_
  refine wpAnyH_take (i := 7) (v := .pointer (some ⟨g0, o0, none⟩)) rfl (by kernel_rfl) (by kernel_rfl) (by kernel_rfl) (fun _ _ _ h => h) (Or.inl ⟨by kernel_rfl, by intro w hSw; (try dsimp only at hSw); go_simp⟩) (by assumption) ?_
  refine wpAnyH_take (i := 8) (v := .string x) rfl (by kernel_rfl) (by kernel_rfl) (by kernel_rfl) (fun _ _ _ h => h) (Or.inl ⟨by kernel_rfl, by intro w hSw; (try dsimp only at hSw); go_simp⟩) (by assumption) ?_
  refine wpAnyH_ready (rs := [0]) (by kernel_rfl) (by simp) ?_
  refine AllReadyH.cons rfl (fun K hK => ?_) AllReadyH.nil
  go_simp
  refine (HN.out _ _).mono ?_
  rintro e w2 ⟨rfl, hb2⟩
  have B2 := BD.trans (hb2.mono BD.size)
  refine hK.out _ _ (HX.out _ B2) (fun hHeld => ?_)
  clear hK K
  refine wpAnyH_ready (rs := [9]) (by kernel_rfl) (by simp) ?_
  refine AllReadyH.cons rfl (fun K hK => ?_) AllReadyH.nil
  go_simp
  refine (HI.out _ B2).mono ?_
  rintro e w3 ⟨⟨v, rfl, hi3⟩, hb3⟩
  obtain ⟨a1, c1, a2, c2, a3, c3, rfl⟩ := shapeE hi3
  have B3 := B2.trans (hb3.mono B2.size)
  refine hK.out _ _ (HX.out _ B3) (fun hHeld => ?_)
  clear hK K
  refine wpAnyH_ready (rs := [10]) (by kernel_rfl) (by simp) ?_
  refine AllReadyH.cons rfl (fun K hK => ?_) AllReadyH.nil
  go_simp
  refine (HP.out _ _ B3 hi3).mono ?_
  rintro e w4 ⟨rfl, hk4, hp4⟩
  have R3 := ((hb2.trans (hb3.mono hb2.size)).block _ HZD.out).trans HRD.out
  have h1b : ¬ one b w.heap.size := by simp only [one]; have := HBL.out; omega
  have R4 := (hp4.block _ (Array.getElem?_eq_some_iff.1 R3).1 h1b).trans R3
  have hK3 : Kept (one b) w w4 := (Kept.of_below B3 (one b)).trans hp4
  have hS4 := hK3.cell (p := ⟨g0, o0, none⟩) HLT.out (by simp only [one]; exact hgb)
  have HK4 := hide (hk4 (fun k => S k ∨ k = w.heap.size) (fun k hk => by
    rcases hk with hk | rfl
    · exact ⟨Nat.lt_of_lt_of_le (hS k hk).1 B3.size, (hS k hk).2⟩
    · exact ⟨(Array.getElem?_eq_some_iff.1 R3).1, by have := HBL.out; omega⟩) (HKB.out _ B3))
  have HKK := hide hK3
  refine hK.out _ _ (hS4.trans HXX.out) (fun hHeld => ?_)
  clear hK K hS4 hK3 hk4 hp4 R3 hi3 hb3 hb2 B2 B3
  have HPR := hide (put4R R4 (.int .i64 3) (.string ⟨#[]⟩) (.int .i64 1) (.slice none 0 0))
  have m0 : w4.cell? ⟨w.heap.size, 0, none⟩ = some (.int .i64 0) := by simp [World.cell?, R4]
  have n0 : w4.frozen? ⟨w.heap.size, 0, none⟩ = false := by simp [World.frozen?, R4]
  have m1 : w4.cell? ⟨w.heap.size, 1, none⟩ = some (.string ⟨#[]⟩) := by simp [World.cell?, R4]
  have n1 : w4.frozen? ⟨w.heap.size, 1, none⟩ = false := by simp [World.frozen?, R4]
  have m2 : w4.cell? ⟨w.heap.size, 2, none⟩ = some (.int .i64 0) := by simp [World.cell?, R4]
  have n2 : w4.frozen? ⟨w.heap.size, 2, none⟩ = false := by simp [World.frozen?, R4]
  have m3 : w4.cell? ⟨w.heap.size, 3, none⟩ = some (.slice none 0 0) := by simp [World.cell?, R4]
  have n3 : w4.frozen? ⟨w.heap.size, 3, none⟩ = false := by simp [World.frozen?, R4]
  clear R4
  refine wpAnyH_ready (rs := [11]) (by kernel_rfl) (by simp) ?_
  refine AllReadyH.cons rfl (fun K hK => ?_) AllReadyH.nil
  go_simp
  obtain ⟨hH, hKp⟩ := HPR.out
  generalize ((((w4.setCell ⟨w.heap.size, 0, none⟩ (.int .i64 3)).setCell ⟨w.heap.size, 1, none⟩ (.string ⟨#[]⟩)).setCell ⟨w.heap.size, 2, none⟩ (.int .i64 1)).setCell ⟨w.heap.size, 3, none⟩ (.slice none 0 0)) = V4 at *
  have hgz : ¬ one w.heap.size g0 := by have hL : g0 < w.heap.size := HLT.out; simp only [one]; omega
  have hS5 := hKp.cell (p := ⟨g0, o0, none⟩) (Nat.lt_of_lt_of_le HLT.out HKK.out.size) hgz
  refine hK.out _ _ (hS5.trans hHeld) (fun hHeld2 => ?_)
  clear hK K m0 m1 m2 m3 n0 n1 n2 n3 hS5
  refine wpAnyH_take (i := 12) (v := .int .i64 E) rfl (by kernel_rfl) (by kernel_rfl) (by kernel_rfl) (fun _ _ _ h => h) (Or.inl ⟨by kernel_rfl, by intro w hSw; (try dsimp only at hSw); go_simp⟩) (by assumption) ?_
  refine wpAnyH_done (by kernel_rfl) ?_ _
  have HHH := hide hH
  have HKP := hide hKp
  clear hH hKp
  go_wp2_with fail
  have hH := HHH.out
  refine bodyPost_ret (v := .tuple #[.agg #[.int .i64 3, .string ⟨#[]⟩, .int .i64 1, .slice none 0 0], .int .i64 E]) (by simp [results, Tryz.results68, go_sem, World.cell?, hH]) rfl ⟨rfl, KeepS.box HK4.out HKP.out, HKK.out.boxed HKP.out⟩
/-- a text lies in memory, everywhere -/
theorem textItE (v : ByteArray) (hv : v.size ≤ maxLen) (w : World) : ItemIs w (.agg #[.int .i64 1, .string v, .slice none 0 0, .slice none 0 0, .slice none 0 0]) ⟨1, v, [], [], []⟩ :=
  ⟨⟨none, 0, none, 0, none, 0, rfl, .inl rfl, .inl rfl, .inl rfl⟩, hv, (fun _ h => by cases h), (fun _ h => by cases h), (fun _ h => by cases h), Nat.zero_le _, Nat.zero_le _, Nat.zero_le _⟩
set_option maxRecDepth 100000 in
set_option maxHeartbeats 8000000 in
theorem set_any (S : Nat → Prop) (b : Nat) (s : List Ent) (now : Int) (g0 o0 cl n : Nat) (x v : ByteArray) (w : World) (hS : ∀ k, S k → k < w.heap.size ∧ k ≠ b) (h : KeepS S w b s now) (hx : w.cell? ⟨g0, o0, none⟩ = some (.string x)) (hgb : g0 ≠ b) (hx2 : w.cell? ⟨g0, o0 + 1, none⟩ = some (.string v)) (hv : v.size ≤ maxLen) :
    Calls Tryz.prog 72 #[.pointer (some ⟨b, 0, none⟩), .slice (some ⟨g0, o0, none⟩) (n + 2) cl] w fun e w' => e = .returned (.tuple #[.agg #[.int .i64 1, .string ⟨#[79, 75]⟩, .int .i64 0, .slice none 0 0], .int .i64 (putE s now x ⟨1, v, [], [], []⟩ 0)]) ∧ KeepS S w' b (keptS s now x ⟨1, v, [], [], []⟩ 0) now ∧ Kept (one b) w w' := by
  have hk := h.at
  have HP := hide (fun W (hW : Below w.heap.size w W) => keepPut_any b s now x _ ⟨1, v, [], [], []⟩ 0 W (hk.below hW) (textItE v hv W))
  have HKB := hide (fun W (hW : Below w.heap.size w W) => h.more hW)
  have HN := hide wordReply_any
  unfold repV at HN
  have hpos : (0 : Int) < ((n : Nat) : Int) + 2 := by omega
  have hpos1 : (1 : Int) < ((n : Nat) : Int) + 2 := by omega
  have HBL := hide hk.lt
  have hlt := World.block_lt_of_cell? _ _ hx
  have HLT := hide hlt
  have HXX := hide (And.intro hx hx2)
  have HX := hide (fun (W : World) (hW : Below w.heap.size w W) => And.intro ((hW.cell (p := ⟨g0, o0, none⟩) hlt).trans hx) ((hW.cell (p := ⟨g0, o0 + 1, none⟩) hlt).trans hx2))
  obtain ⟨V, hV, AV, RB⟩ : ∃ V, w.alloc (.cells #[.int .i64 0, .string ⟨#[]⟩, .int .i64 0, .slice none 0 0] 27) = V ∧ Below w.heap.size w V ∧ V.heap[w.heap.size]? = some (.cells #[.int .i64 0, .string ⟨#[]⟩, .int .i64 0, .slice none 0 0] 27) := ⟨_, rfl, (Below.refl _ w).alloc (Nat.le_refl _) _, by show (w.heap.push _)[w.heap.size]? = _; simp⟩
  have HRD : Hid (V.drew.heap[w.heap.size]? = some (.cells #[.int .i64 0, .string ⟨#[]⟩, .int .i64 0, .slice none 0 0] 27 (0, 0))) := RB
  have HZD := hide (Array.getElem?_eq_some_iff.1 HRD.out).1
  have HBD : Hid (Below w.heap.size w V.drew) := AV.drew
  clear hx hx2 hk h RB AV hlt
  generalize keptS s now x ⟨1, v, [], [], []⟩ 0 = T2 at *
  generalize putE s now x ⟨1, v, [], [], []⟩ 0 = E at *
  go_enter Tryz.func72, Tryz.ntmps72
  go_wp2_with fail
  clear hV
  refine wp_region_held_drew (S := (fun w' : World => w'.cell? ⟨g0, o0, none⟩ = some (.string x) ∧ w'.cell? ⟨g0, o0 + 1, none⟩ = some (.string v))) (by kernel_rfl) (HX.out _ HBD.out) (fun hHeld => ?_)
  refine wpAnyH_take (i := 1) (v := .pointer (some ⟨b, 0, none⟩)) rfl (by kernel_rfl) (by kernel_rfl) (by kernel_rfl) (fun _ _ _ h => h) (Or.inl ⟨by kernel_rfl, by intro w hSw; (try dsimp only at hSw); go_simp⟩) (by assumption) ?_
  refine wpAnyH_take (i := 2) (v := .slice (some ⟨g0, o0, none⟩) (n + 2) cl) rfl (by kernel_rfl) (by kernel_rfl) (by kernel_rfl) (fun _ _ _ h => h) (Or.inl ⟨by kernel_rfl, by intro w hSw; (try dsimp only at hSw); go_simp⟩) (by assumption) ?_
  refine wpAnyH_take (i := 3) (v := .pointer (some ⟨g0, o0, none⟩)) rfl (by kernel_rfl) (by kernel_rfl) (by kernel_rfl) (fun _ _ _ h => h) (Or.inl ⟨by kernel_rfl, by intro w hSw; (try dsimp only at hSw); go_simp⟩) (by assumption) ?_
  refine wpAnyH_take (i := 4) (v := .string x) rfl (by kernel_rfl) (by kernel_rfl) (by kernel_rfl) (fun _ _ _ h => h) (Or.inl ⟨by kernel_rfl, by intro w hSw; (try dsimp only at hSw); go_simp⟩) (by assumption) ?_
  refine wpAnyH_take (i := 5) (v := .slice (some ⟨g0, o0, none⟩) (n + 2) cl) rfl (by kernel_rfl) (by kernel_rfl) (by kernel_rfl) (fun _ _ _ h => h) (Or.inl ⟨by kernel_rfl, by intro w hSw; (try dsimp only at hSw); go_simp⟩) (by assumption) ?_
  refine wpAnyH_take (i := 6) (v := .pointer (some ⟨g0, o0 + 1, none⟩)) rfl (by kernel_rfl) (by kernel_rfl) (by kernel_rfl) (fun _ _ _ h => h) (Or.inl ⟨by kernel_rfl, by intro w hSw; (try dsimp only at hSw); go_simp⟩) (by assumption) ?_
  refine wpAnyH_take (i := 7) (v := .string v) rfl (by kernel_rfl) (by kernel_rfl) (by kernel_rfl) (fun _ _ _ h => h) (Or.inl ⟨by kernel_rfl, by intro w hSw; (try dsimp only at hSw); go_simp⟩) (by assumption) ?_
  refine wpAnyH_take (i := 8) (v := .agg #[.int .i64 1, .string v, .slice none 0 0, .slice none 0 0, .slice none 0 0]) rfl (by kernel_rfl) (by kernel_rfl) (by kernel_rfl) (fun _ _ _ h => h) (Or.inl ⟨by kernel_rfl, by intro w hSw; (try dsimp only at hSw); go_simp⟩) (by assumption) ?_
  refine wpAnyH_ready (rs := [0]) (by kernel_rfl) (by simp) ?_
  refine AllReadyH.cons rfl (fun K hK => ?_) AllReadyH.nil
  go_simp
  refine (HN.out _ _).mono ?_
  rintro e w2 ⟨rfl, hb2⟩
  have B2 := HBD.out.trans (hb2.mono HBD.out.size)
  refine hK.out _ _ (HX.out _ B2) (fun hHeld => ?_)
  clear hK K
  refine wpAnyH_ready (rs := [9]) (by kernel_rfl) (by simp) ?_
  refine AllReadyH.cons rfl (fun K hK => ?_) AllReadyH.nil
  go_simp
  refine (HP.out _ B2).mono ?_
  rintro e w4 ⟨rfl, hk4, hp4⟩
  have R3 := (hb2.block _ HZD.out).trans HRD.out
  have h1b : ¬ one b w.heap.size := by simp only [one]; have := HBL.out; omega
  have R4 := (hp4.block _ (Array.getElem?_eq_some_iff.1 R3).1 h1b).trans R3
  have hK3 : Kept (one b) w w4 := (Kept.of_below B2 (one b)).trans hp4
  have hS4 := hK3.cell (p := ⟨g0, o0, none⟩) HLT.out (by simp only [one]; exact hgb)
  have hS4b := hK3.cell (p := ⟨g0, o0 + 1, none⟩) HLT.out (by simp only [one]; exact hgb)
  have HK4 := hide (hk4 (fun k => S k ∨ k = w.heap.size) (fun k hk => by
    rcases hk with hk | rfl
    · exact ⟨Nat.lt_of_lt_of_le (hS k hk).1 B2.size, (hS k hk).2⟩
    · exact ⟨(Array.getElem?_eq_some_iff.1 R3).1, by have := HBL.out; omega⟩) (HKB.out _ B2))
  have HKK := hide hK3
  refine hK.out _ _ ⟨hS4.trans HXX.out.1, hS4b.trans HXX.out.2⟩ (fun hHeld => ?_)
  clear hK K hS4 hS4b hK3 hk4 hp4 R3 hb2 B2
  have HPR := hide (put4R R4 (.int .i64 1) (.string ⟨#[79, 75]⟩) (.int .i64 0) (.slice none 0 0))
  have m0 : w4.cell? ⟨w.heap.size, 0, none⟩ = some (.int .i64 0) := by simp [World.cell?, R4]
  have n0 : w4.frozen? ⟨w.heap.size, 0, none⟩ = false := by simp [World.frozen?, R4]
  have m1 : w4.cell? ⟨w.heap.size, 1, none⟩ = some (.string ⟨#[]⟩) := by simp [World.cell?, R4]
  have n1 : w4.frozen? ⟨w.heap.size, 1, none⟩ = false := by simp [World.frozen?, R4]
  have m2 : w4.cell? ⟨w.heap.size, 2, none⟩ = some (.int .i64 0) := by simp [World.cell?, R4]
  have n2 : w4.frozen? ⟨w.heap.size, 2, none⟩ = false := by simp [World.frozen?, R4]
  have m3 : w4.cell? ⟨w.heap.size, 3, none⟩ = some (.slice none 0 0) := by simp [World.cell?, R4]
  have n3 : w4.frozen? ⟨w.heap.size, 3, none⟩ = false := by simp [World.frozen?, R4]
  clear R4
  refine wpAnyH_ready (rs := [10]) (by kernel_rfl) (by simp) ?_
  refine AllReadyH.cons rfl (fun K hK => ?_) AllReadyH.nil
  go_simp
  obtain ⟨hH, hKp⟩ := HPR.out
  generalize ((((w4.setCell ⟨w.heap.size, 0, none⟩ (.int .i64 1)).setCell ⟨w.heap.size, 1, none⟩ (.string ⟨#[79, 75]⟩)).setCell ⟨w.heap.size, 2, none⟩ (.int .i64 0)).setCell ⟨w.heap.size, 3, none⟩ (.slice none 0 0)) = V4 at *
  have hgz : ¬ one w.heap.size g0 := by have hL : g0 < w.heap.size := HLT.out; simp only [one]; omega
  have hS5 := hKp.cell (p := ⟨g0, o0, none⟩) (Nat.lt_of_lt_of_le HLT.out HKK.out.size) hgz
  have hS5b := hKp.cell (p := ⟨g0, o0 + 1, none⟩) (Nat.lt_of_lt_of_le HLT.out HKK.out.size) hgz
  refine hK.out _ _ ⟨hS5.trans hHeld.1, hS5b.trans hHeld.2⟩ (fun hHeld2 => ?_)
  clear hK K m0 m1 m2 m3 n0 n1 n2 n3 hS5 hS5b
  refine wpAnyH_take (i := 11) (v := .int .i64 E) rfl (by kernel_rfl) (by kernel_rfl) (by kernel_rfl) (fun _ _ _ h => h) (Or.inl ⟨by kernel_rfl, by intro w hSw; (try dsimp only at hSw); go_simp⟩) (by assumption) ?_
  refine wpAnyH_done (by kernel_rfl) ?_ _
  have HHH := hide hH
  have HKP := hide hKp
  clear hH hKp
  go_wp2_with fail
  have hH := HHH.out
  refine bodyPost_ret (v := .tuple #[.agg #[.int .i64 1, .string ⟨#[79, 75]⟩, .int .i64 0, .slice none 0 0], .int .i64 E]) (by simp [results, Tryz.results72, go_sem, World.cell?, hH]) rfl ⟨rfl, KeepS.box HK4.out HKP.out, HKK.out.boxed HKP.out⟩
end Go.Proofs.YtmaancidkpfopaaGreatDoor

