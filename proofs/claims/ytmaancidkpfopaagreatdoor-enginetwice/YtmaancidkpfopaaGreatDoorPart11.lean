/- Part 11 of what the proof leans on: EDed3, ComC, Com, Txt, EDed5, EPl, EDo3, EDed7, RZer0, OwnF. -/
import Derived.Test.YtmaancidkpfopaaGreatDoorPart1
import Derived.Test.YtmaancidkpfopaaGreatDoorPart4
import Derived.Test.YtmaancidkpfopaaGreatDoorPart5
import Derived.Test.YtmaancidkpfopaaGreatDoorPart6
import Derived.Test.YtmaancidkpfopaaGreatDoorPart9
import Derived.Handy
import Derived.Test.YtmaancidkpfopaaGreatDoorPart3
import Derived.Test.YtmaancidkpfopaaGreatDoorPart7
import Derived.WalkSpells
import Derived.Test.YtmaancidkpfopaaGreatDoorPart8
import Derived.Test.YtmaancidkpfopaaGreatDoorPart10
import Derived.Test.YtmaancidkpfopaaGreatDoorPart2
/- WALK: the deed of del. -/
namespace Go.Proofs.YtmaancidkpfopaaGreatDoor
open Go.RowKit

/-- what del answers, and what is left: how many were there, an error, the space -/
def dropR (now : Int) : List ByteArray → List Ent → Nat → Nat × Int × List Ent
  | [], s, n => (n, 0, s)
  | x :: r, s, n => if putE s now x Itm.none 0 = 0 then dropR now r (keptS s now x Itm.none 0) (if (getR s now x).isNone then n else n + 1) else (0, putE s now x Itm.none 0, s)
def dropV (t : Nat × Int × List Ent) : Value := if t.2.1 = 0 then repV 3 ⟨#[]⟩ t.1 else repV 0 ⟨#[]⟩ 0
def DropI (S : Nat → Prop) (b : Nat) (s : List Ent) (now : Int) (l : List ByteArray) (w : World) (k n : Nat) (s2 : List Ent) (wr : World) : Prop :=
  KeepS (fun k => S k ∨ k = w.heap.size) wr b s2 now ∧ Kept (one b) w wr ∧ wr.heap[w.heap.size]? = some (.cells #[.int .i64 0, .string ⟨#[]⟩, .int .i64 0, .slice none 0 0] 27 (0, 0)) ∧ dropR now l s 0 = dropR now (l.drop k) s2 n ∧ n ≤ k
set_option maxRecDepth 100000 in
set_option maxHeartbeats 16000000 in
theorem dropDeed_any (S : Nat → Prop) (b : Nat) (s : List Ent) (now : Int) (a : Option Addr) (cl : Nat) (l : List ByteArray) (w : World) (hS : ∀ k, S k → k < w.heap.size ∧ k ≠ b) (h : KeepS S w b s now) (hl : TextsAt w a l) (hgb : ∀ g o, a = some ⟨g, o, none⟩ → g ≠ b) (hll : l.length ≤ 1000000) :
    Calls Tryz.prog 58 #[.pointer (some ⟨b, 0, none⟩), .slice a l.length cl] w fun e w' => e = .returned (.tuple #[dropV (dropR now l s 0), .int .i64 (dropR now l s 0).2.1]) ∧ KeepS S w' b (dropR now l s 0).2.2 now ∧ Kept (one b) w w' := by
  have hbl := h.at.lt
  have HBL := hide hbl
  have HX : Hid (∀ W, Kept (one b) w W → ∀ k (h : k < l.length), ∃ g o, a = some ⟨g, o, none⟩ ∧ W.cell? ⟨g, o + k, none⟩ = some (.string l[k])) := fun W hW k hk => by
    rcases hl with rfl | ⟨g, o, h1, h2⟩
    · exact absurd hk (by simp)
    · exact ⟨g, o, h1, (hW.cell (p := ⟨g, o + k, none⟩) (World.block_lt_of_cell? _ _ (h2 k hk)) (by simp only [one]; exact hgb g o h1)).trans (h2 k hk)⟩
  have HN := hide numberReply_any
  unfold repV at HN
  obtain ⟨V, hV, AV, RB⟩ : ∃ V, w.alloc (.cells #[.int .i64 0, .string ⟨#[]⟩, .int .i64 0, .slice none 0 0] 27) = V ∧ Below w.heap.size w V ∧ V.heap[w.heap.size]? = some (.cells #[.int .i64 0, .string ⟨#[]⟩, .int .i64 0, .slice none 0 0] 27) := ⟨_, rfl, (Below.refl _ w).alloc (Nat.le_refl _) _, by show (w.heap.push _)[w.heap.size]? = _; simp⟩
  have HI0 : Hid (DropI S b s now l w 0 0 s V) := ⟨h.more AV, Kept.of_below AV (one b), RB, rfl, Nat.le_refl _⟩
  have HSS := hide hS
  clear hl hgb h RB hS hbl
  go_enter Tryz.func58, Tryz.ntmps58
  go_wp2_with fail
  clear hV AV
  go_loopw [6, 12] (fun nv iv wr => ∃ (k n : Nat) (s2 : List Ent), k ≤ l.length ∧ nv = .int .i64 n ∧ iv = .int .i64 k ∧ Hid (DropI S b s now l w k n s2 wr)) (fun _ iv _ => l.length - (intOf iv).toNat)
  case atStart => exact ⟨0, 0, s, Nat.zero_le _, rfl, rfl, HI0⟩
  case round =>
    obtain ⟨k, n, s2, hk, rfl, rfl, HR⟩ := hrel
    obtain ⟨wo, hwo⟩ : ∃ wo, wo = wr := ⟨wr, rfl⟩
    subst hwo
    obtain ⟨i1, i2, i3, i4, i5⟩ := HR.out
    have hnk := i5
    have hzw : w.heap.size < wo.heap.size := (Array.getElem?_eq_some_iff.1 i3).1
    by_cases hlt : k < l.length
    · have hlt' : ((k : Nat) : Int) < ((l.length : Nat) : Int) := by omega
      obtain ⟨g, o, rfl, d⟩ := HX.out wo i2 k hlt
      have HDR : Hid (dropR now (l.drop k) s2 n = if putE s2 now l[k] Itm.none 0 = 0 then dropR now (l.drop (k + 1)) (keptS s2 now l[k] Itm.none 0) (if (getR s2 now l[k]).isNone then n else n + 1) else (0, putE s2 now l[k] Itm.none 0, s2)) := by
        rw [List.drop_eq_getElem_cons hlt]
        rfl
      have HH := hide (keepHas_any b s2 now l[k] wo i1.at)
      have HDP := hide (fun W (hW : Below wo.heap.size wo W) => keepDrop_any b s2 now l[k] W (i1.at.below hW))
      have H3 : Hid (putE s2 now l[k] Itm.none 0 ≠ 0 → keptS s2 now l[k] Itm.none 0 = s2) := fun h => if_neg h
      clear i1 i2 i3 i4 i5
      generalize keptS s2 now l[k] Itm.none 0 = S3 at *
      generalize putE s2 now l[k] Itm.none 0 = E at *
      generalize (getR s2 now l[k]).isNone = NB at *
      generalize l[k] = x at *
      go_wp2_with fail
      refine HH.out.mono ?_
      rintro e w1 ⟨rfl, hb1⟩
      cases NB
      case' false =>
        have hadd : ((n : Nat) : Int) + 1 = ((n + 1 : Nat) : Int) := by omega
        obtain ⟨M, hM⟩ : ∃ M, n + 1 = M := ⟨_, rfl⟩
      case' true =>
        obtain ⟨M, hM⟩ : ∃ M, n = M := ⟨_, rfl⟩
      all_goals
        have hM2 : M ≤ k + 1 := by omega
        go_wp2_with fail
        refine (HDP.out _ hb1).mono ?_
        rintro e w2 ⟨rfl, hk2, hp2⟩
        have hKr := HR.out
        obtain ⟨i1, i2, i3, i4, i5⟩ := hKr
        have hK2 : Kept (one b) w w2 := (i2.trans (Kept.of_below hb1 (one b))).trans hp2
        have h1b : ¬ one b w.heap.size := by simp only [one]; have := HBL.out; omega
        have r1 := (hb1.block _ hzw).trans i3
        have R2 := (hp2.block _ (Array.getElem?_eq_some_iff.1 r1).1 h1b).trans r1
        have hk3 := hk2 (fun k => S k ∨ k = w.heap.size) (fun j hj => by
          rcases hj with hj | rfl
          · exact ⟨Nat.lt_of_lt_of_le (HSS.out j hj).1 (Nat.le_trans i2.size hb1.size), (HSS.out j hj).2⟩
          · exact ⟨(Array.getElem?_eq_some_iff.1 r1).1, by have := HBL.out; omega⟩) (i1.below hb1)
        clear hk2
        by_cases hE : E = 0
        · have e1 : (E == 0) = true := by rw [hE]; rfl
          have e2 : (E != 0) = false := by rw [hE]; rfl
          have HNEW : Hid (DropI S b s now l w (k + 1) M S3 w2) := ⟨hk3, hK2, R2, by rw [i4, HDR.out, if_pos hE, ← hM]; rfl, hM2⟩
          clear i1 i2 i3 i4 i5 hk3 hp2 hK2 r1 R2 hb1
          go_wp2_with fail
          go_roundw
          case rel => exact ⟨k + 1, M, S3, by omega, by first | rfl | (rw [← hM]; go_num) | (rw [← hM]; simp), by go_num, HNEW⟩
          case measure => simp [intOf]; omega
        · have e1 : (E == 0) = false := by rw [beq_eq_false_iff_ne]; exact hE
          have e2 : (E != 0) = true := by rw [bne_iff_ne]; exact hE
          have HPR := hide (put4R R2 (.int .i64 0) (.string ⟨#[]⟩) (.int .i64 0) (.slice none 0 0))
          have HKK := hide hK2
          have HKD : Hid (KeepS (fun k => S k ∨ k = w.heap.size) w2 b s2 now) := by
            rw [H3.out hE] at hk3
            exact hk3
          have HRS : Hid (dropR now l s 0 = (0, E, s2)) := by rw [Hid, i4, HDR.out, if_neg hE]
          have m0 : w2.cell? ⟨w.heap.size, 0, none⟩ = some (.int .i64 0) := by simp [World.cell?, R2]
          have n0 : w2.frozen? ⟨w.heap.size, 0, none⟩ = false := by simp [World.frozen?, R2]
          have m1 : w2.cell? ⟨w.heap.size, 1, none⟩ = some (.string ⟨#[]⟩) := by simp [World.cell?, R2]
          have n1 : w2.frozen? ⟨w.heap.size, 1, none⟩ = false := by simp [World.frozen?, R2]
          have m2 : w2.cell? ⟨w.heap.size, 2, none⟩ = some (.int .i64 0) := by simp [World.cell?, R2]
          have n2 : w2.frozen? ⟨w.heap.size, 2, none⟩ = false := by simp [World.frozen?, R2]
          have m3 : w2.cell? ⟨w.heap.size, 3, none⟩ = some (.slice none 0 0) := by simp [World.cell?, R2]
          have n3 : w2.frozen? ⟨w.heap.size, 3, none⟩ = false := by simp [World.frozen?, R2]
          clear i1 i2 i3 i4 i5 hk3 hp2 hK2 r1 R2 hb1
          go_wp2_with fail
          obtain ⟨hH, hKp⟩ := HPR.out
          generalize ((((w2.setCell ⟨w.heap.size, 0, none⟩ (.int .i64 0)).setCell ⟨w.heap.size, 1, none⟩ (.string ⟨#[]⟩)).setCell ⟨w.heap.size, 2, none⟩ (.int .i64 0)).setCell ⟨w.heap.size, 3, none⟩ (.slice none 0 0)) = V4 at *
          refine bodyPost_ret (v := .tuple #[.agg #[.int .i64 0, .string ⟨#[]⟩, .int .i64 0, .slice none 0 0], .int .i64 E]) (by simp [results, Tryz.results58, go_sem, World.cell?, hH]) rfl ⟨?_, ?_, HKK.out.boxed hKp⟩
          · rw [HRS.out]
            unfold dropV repV
            rw [if_neg hE]
          · rw [HRS.out]
            exact KeepS.box HKD.out hKp
    · have hge : ¬ ((k : Nat) : Int) < ((l.length : Nat) : Int) := by omega
      have HRS : Hid (dropR now l s 0 = (n, 0, s2)) := by
        rw [Hid, i4, List.drop_eq_nil_of_le (by omega)]
        rfl
      clear i1 i2 i3 i4 i5
      go_wp2_with fail
      refine (HN.out _ _).mono ?_
      rintro e w2 ⟨rfl, hb2⟩
      have HB2 := hide hb2
      obtain ⟨i1, i2, i3, i4, i5⟩ := HR.out
      have R2 := (hb2.block _ hzw).trans i3
      have HPR := hide (put4R R2 (.int .i64 3) (.string ⟨#[]⟩) (.int .i64 n) (.slice none 0 0))
      have HKK : Hid (Kept (one b) w w2) := i2.trans (Kept.of_below hb2 (one b))
      have HKD : Hid (KeepS (fun k => S k ∨ k = w.heap.size) w2 b s2 now) := i1.below hb2
      have m0 : w2.cell? ⟨w.heap.size, 0, none⟩ = some (.int .i64 0) := by simp [World.cell?, R2]
      have n0 : w2.frozen? ⟨w.heap.size, 0, none⟩ = false := by simp [World.frozen?, R2]
      have m1 : w2.cell? ⟨w.heap.size, 1, none⟩ = some (.string ⟨#[]⟩) := by simp [World.cell?, R2]
      have n1 : w2.frozen? ⟨w.heap.size, 1, none⟩ = false := by simp [World.frozen?, R2]
      have m2 : w2.cell? ⟨w.heap.size, 2, none⟩ = some (.int .i64 0) := by simp [World.cell?, R2]
      have n2 : w2.frozen? ⟨w.heap.size, 2, none⟩ = false := by simp [World.frozen?, R2]
      have m3 : w2.cell? ⟨w.heap.size, 3, none⟩ = some (.slice none 0 0) := by simp [World.cell?, R2]
      have n3 : w2.frozen? ⟨w.heap.size, 3, none⟩ = false := by simp [World.frozen?, R2]
      clear i1 i2 i3 i4 i5 R2 hb2
      go_wp2_with fail
      obtain ⟨hH, hKp⟩ := HPR.out
      generalize ((((w2.setCell ⟨w.heap.size, 0, none⟩ (.int .i64 3)).setCell ⟨w.heap.size, 1, none⟩ (.string ⟨#[]⟩)).setCell ⟨w.heap.size, 2, none⟩ (.int .i64 n)).setCell ⟨w.heap.size, 3, none⟩ (.slice none 0 0)) = V4 at *
      refine bodyPost_ret (v := .tuple #[.agg #[.int .i64 3, .string ⟨#[]⟩, .int .i64 n, .slice none 0 0], .int .i64 0]) (by simp [results, Tryz.results58, go_sem, World.cell?, hH]) rfl ⟨?_, ?_, HKK.out.boxed hKp⟩
      · rw [HRS.out]
        rfl
      · rw [HRS.out]
        exact KeepS.box HKD.out hKp
end Go.Proofs.YtmaancidkpfopaaGreatDoor

/- WALK of common.Check. -/
namespace Go.Proofs.YtmaancidkpfopaaGreatDoor
open Go.RowKit

set_option maxRecDepth 100000 in
set_option maxHeartbeats 4000000 in
theorem common_any (v : Value) (x : Itm) (kind : Int) (w : World) (h : ItemIs w v x) :
    Calls Tryz.prog 115 #[v, .int .i64 kind] w fun e w' => e = .returned (.int .i64 (asI x kind)) ∧ Below w.heap.size w w' := by
  have HI := hide h
  obtain ⟨⟨a1, c1, a2, c2, a3, c3, rfl, -, -, -⟩, -, -, -, -, -, -, -⟩ := h
  have HN : Hid (∀ W, Calls Tryz.prog 160 #[.agg #[.int .i64 x.k, .string x.t, .slice a1 x.l.length c1, .slice a2 x.p.length c2, .slice a3 x.s.length c3]] W fun e w' => e = .returned (.bool x.isNone) ∧ Below W.heap.size W w') := fun W => by rw [← isNone_len]; exact isNothing_any x.k x.t a1 a2 a3 x.l.length x.p.length x.s.length c1 c2 c3 W
  have HC : Hid (∀ W, Below w.heap.size w W → Calls Tryz.prog 195 #[.agg #[.int .i64 x.k, .string x.t, .slice a1 x.l.length c1, .slice a2 x.p.length c2, .slice a3 x.s.length c3]] W fun e w' => e = .returned (.int .i64 (rightI x)) ∧ Below W.heap.size W w') := fun W hW => right_any _ x W (HI.out.below hW)
  clear HI
  rw [asI_right]
  generalize rightI x = C at *
  by_cases h0 : C = 0
  · subst h0
    rw [if_neg (by simp)]
    cases hn : x.isNone with
    | true =>
      rw [hn] at HN
      rw [if_pos rfl]
      clear hn
      generalize x.l.length = n1 at *
      generalize x.p.length = n2 at *
      generalize x.s.length = n3 at *
      generalize x.k = k at *
      generalize x.t = t at *
      go_enter Tryz.func115, Tryz.ntmps115
      go_wp2_with fail
      refine (HC.out _ ((Below.refl _ w).alloc (Nat.le_refl _) _)).mono ?_
      rintro e w1 ⟨rfl, hb1⟩
      obtain ⟨hc, hf⟩ := bcell hb1
      have hz : w.heap.size < w1.heap.size := by have := hb1.size; simp at this; omega
      have hB1 : Below w.heap.size w w1 := ((Below.refl _ w).alloc (Nat.le_refl _) _).trans (hb1.mono (by simp))
      go_wp2_with fail
      refine (HN.out _).mono ?_
      rintro e w2 ⟨rfl, hb2⟩
      obtain ⟨hc2, hf2⟩ := bcell hb2
      have hz2 : w.heap.size < w2.heap.size := by have := hb2.size; omega
      have hB2 : Below w.heap.size w w2 := hB1.trans (hb2.mono hB1.size)
      go_wp2_with fail
      go_ret
      exact ⟨rfl, hB2⟩
    | false =>
      rw [hn] at HN
      rw [if_neg (by decide)]
      clear hn
      generalize x.l.length = n1 at *
      generalize x.p.length = n2 at *
      generalize x.s.length = n3 at *
      generalize x.k = k at *
      generalize x.t = t at *
      by_cases hk : k = kind
      · subst hk
        rw [if_neg (by simp)]
        go_enter Tryz.func115, Tryz.ntmps115
        go_wp2_with fail
        refine (HC.out _ ((Below.refl _ w).alloc (Nat.le_refl _) _)).mono ?_
        rintro e w1 ⟨rfl, hb1⟩
        obtain ⟨hc, hf⟩ := bcell hb1
        have hz : w.heap.size < w1.heap.size := by have := hb1.size; simp at this; omega
        have hB1 : Below w.heap.size w w1 := ((Below.refl _ w).alloc (Nat.le_refl _) _).trans (hb1.mono (by simp))
        go_wp2_with fail
        refine (HN.out _).mono ?_
        rintro e w2 ⟨rfl, hb2⟩
        obtain ⟨hc2, hf2⟩ := bcell hb2
        have hz2 : w.heap.size < w2.heap.size := by have := hb2.size; omega
        have hB2 : Below w.heap.size w w2 := hB1.trans (hb2.mono hB1.size)
        go_wp2_with fail
        go_ret
        exact ⟨rfl, hB2⟩
      · rw [if_pos hk]
        have hk' : (k == kind) = false := by rw [beq_eq_false_iff_ne]; exact hk
        go_enter Tryz.func115, Tryz.ntmps115
        go_wp2_with fail
        refine (HC.out _ ((Below.refl _ w).alloc (Nat.le_refl _) _)).mono ?_
        rintro e w1 ⟨rfl, hb1⟩
        obtain ⟨hc, hf⟩ := bcell hb1
        have hz : w.heap.size < w1.heap.size := by have := hb1.size; simp at this; omega
        have hB1 : Below w.heap.size w w1 := ((Below.refl _ w).alloc (Nat.le_refl _) _).trans (hb1.mono (by simp))
        go_wp2_with fail
        refine (HN.out _).mono ?_
        rintro e w2 ⟨rfl, hb2⟩
        obtain ⟨hc2, hf2⟩ := bcell hb2
        have hz2 : w.heap.size < w2.heap.size := by have := hb2.size; omega
        have hB2 : Below w.heap.size w w2 := hB1.trans (hb2.mono hB1.size)
        go_wp2_with fail
        go_ret
        exact ⟨rfl, hB2⟩
  · rw [if_pos h0]
    have h0' : (C == 0) = false := by rw [beq_eq_false_iff_ne]; exact h0
    clear HN
    generalize x.l.length = n1 at *
    generalize x.p.length = n2 at *
    generalize x.s.length = n3 at *
    generalize x.k = k at *
    generalize x.t = t at *
    go_enter Tryz.func115, Tryz.ntmps115
    go_wp2_with fail
    refine (HC.out _ ((Below.refl _ w).alloc (Nat.le_refl _) _)).mono ?_
    rintro e w1 ⟨rfl, hb1⟩
    obtain ⟨hc, hf⟩ := bcell hb1
    have hz : w.heap.size < w1.heap.size := by have := hb1.size; simp at this; omega
    have hB1 : Below w.heap.size w w1 := ((Below.refl _ w).alloc (Nat.le_refl _) _).trans (hb1.mono (by simp))
    go_wp2_with fail
    go_ret
    exact ⟨rfl, hB1⟩

end Go.Proofs.YtmaancidkpfopaaGreatDoor

/- WALKS of what the layers of items have in common: places of a range. -/
namespace Go.Proofs.YtmaancidkpfopaaGreatDoor
open Go.RowKit

/-- a place from the beginning -/
def fromB (n : Nat) (f : Int) : Int := if f < 0 then n + f else f
theorem fromEnd_any (n : Nat) (f : Int) (w : World) (hn : n ≤ 9223372036854775807) (hf : -9223372036854775808 ≤ f) : Calls Tryz.prog 225 #[.int .i64 n, .int .i64 f] w fun e w' => e = .returned (.int .i64 (fromB n f)) ∧ w' = w := by
  by_cases h : f < 0
  · rw [show fromB n f = n + f by rw [fromB, if_pos h]]
    go_enter Tryz.func225, Tryz.ntmps225
    go_wp2_with fail
    go_ret
    exact ⟨rfl, rfl⟩
  · rw [show fromB n f = f by rw [fromB, if_neg h]]
    go_enter Tryz.func225, Tryz.ntmps225
    go_wp2_with fail
    go_ret
    exact ⟨rfl, rfl⟩
/-- the first place, and the one behind the last -/
def place1 (n : Nat) (f t : Int) : Nat := if min (fromB n t) (n - 1) < max (fromB n f) 0 then 0 else (max (fromB n f) 0).toNat
def place2 (n : Nat) (f t : Int) : Nat := if min (fromB n t) (n - 1) < max (fromB n f) 0 then 0 else (min (fromB n t) (n - 1)).toNat + 1
theorem place_le (n : Nat) (f t : Int) : place1 n f t ≤ place2 n f t ∧ place2 n f t ≤ n := by
  unfold place1 place2
  split <;> omega
set_option maxHeartbeats 1000000 in
theorem places_any (n : Nat) (f t : Int) (w : World) (hn : n ≤ 9223372036854775807) (hf : -9223372036854775808 ≤ f) (ht : -9223372036854775808 ≤ t) (hf2 : f ≤ 9223372036854775807) (ht2 : t ≤ 9223372036854775807) :
    Calls Tryz.prog 164 #[.int .i64 n, .int .i64 f, .int .i64 t] w fun e w' => e = .returned (.tuple #[.int .i64 (place1 n f t), .int .i64 (place2 n f t)]) ∧ w' = w := by
  have H1 : Hid (∀ W, Calls Tryz.prog 225 #[.int .i64 n, .int .i64 f] W fun e w' => e = .returned (.int .i64 (fromB n f)) ∧ w' = W) := fun W => fromEnd_any n f W hn hf
  have H2 : Hid (∀ W, Calls Tryz.prog 225 #[.int .i64 n, .int .i64 t] W fun e w' => e = .returned (.int .i64 (fromB n t)) ∧ w' = W) := fun W => fromEnd_any n t W hn ht
  have b1 : fromB n f ≤ 9223372036854775807 ∧ -9223372036854775808 ≤ fromB n f := by unfold fromB; split <;> omega
  have b2 : fromB n t ≤ 9223372036854775807 ∧ -9223372036854775808 ≤ fromB n t := by unfold fromB; split <;> omega
  have P1 : Hid (((place1 n f t : Nat) : Int) = if min (fromB n t) (n - 1) < max (fromB n f) 0 then 0 else max (fromB n f) 0) := by unfold place1; split <;> (simp only [Hid]; omega)
  have P2 : Hid (((place2 n f t : Nat) : Int) = if min (fromB n t) (n - 1) < max (fromB n f) 0 then 0 else min (fromB n t) (n - 1) + 1) := by unfold place2; split <;> (simp only [Hid]; omega)
  rw [P1.out, P2.out]
  clear P1 P2
  generalize fromB n f = F at *
  generalize fromB n t = T at *
  obtain ⟨b1, b1'⟩ := b1
  obtain ⟨b2, b2'⟩ := b2
  rcases Int.lt_or_le F 0 with hF | hF
  · rw [show max F 0 = 0 by omega]
    rcases Int.lt_or_le ((n : Int) - 1) T with hT | hT
    · rw [show min T ((n : Int) - 1) = (n : Int) - 1 by omega]
      by_cases hL : (n : Int) - 1 < 0
      · rw [if_pos hL, if_pos hL]
        go_enter Tryz.func164, Tryz.ntmps164
        go_wp2_with fail
        refine (H1.out _).mono ?_
        rintro e w1 ⟨rfl, rfl⟩
        go_wp2_with fail
        refine (H2.out _).mono ?_
        rintro e w1 ⟨rfl, rfl⟩
        go_wp2_with fail
        go_ret2
        first | exact ⟨rfl, rfl⟩ | (refine ⟨?_, rfl⟩; simp [go_sem]; omega)
      · rw [if_neg hL, if_neg hL, show (n : Int) - 1 + 1 = n by omega]
        go_enter Tryz.func164, Tryz.ntmps164
        go_wp2_with fail
        refine (H1.out _).mono ?_
        rintro e w1 ⟨rfl, rfl⟩
        go_wp2_with fail
        refine (H2.out _).mono ?_
        rintro e w1 ⟨rfl, rfl⟩
        go_wp2_with fail
        go_ret2
        first | exact ⟨rfl, rfl⟩ | (refine ⟨?_, rfl⟩; simp [go_sem]; omega)
    · rw [show min T ((n : Int) - 1) = T by omega]
      by_cases hL : T < 0
      · rw [if_pos hL, if_pos hL]
        go_enter Tryz.func164, Tryz.ntmps164
        go_wp2_with fail
        refine (H1.out _).mono ?_
        rintro e w1 ⟨rfl, rfl⟩
        go_wp2_with fail
        refine (H2.out _).mono ?_
        rintro e w1 ⟨rfl, rfl⟩
        go_wp2_with fail
        go_ret2
        first | exact ⟨rfl, rfl⟩ | (refine ⟨?_, rfl⟩; simp [go_sem]; omega)
      · rw [if_neg hL, if_neg hL]
        go_enter Tryz.func164, Tryz.ntmps164
        go_wp2_with fail
        refine (H1.out _).mono ?_
        rintro e w1 ⟨rfl, rfl⟩
        go_wp2_with fail
        refine (H2.out _).mono ?_
        rintro e w1 ⟨rfl, rfl⟩
        go_wp2_with fail
        go_ret2
        first | exact ⟨rfl, rfl⟩ | (refine ⟨?_, rfl⟩; simp [go_sem]; omega)
  · rw [show max F 0 = F by omega]
    rcases Int.lt_or_le ((n : Int) - 1) T with hT | hT
    · rw [show min T ((n : Int) - 1) = (n : Int) - 1 by omega]
      by_cases hL : (n : Int) - 1 < F
      · rw [if_pos hL, if_pos hL]
        go_enter Tryz.func164, Tryz.ntmps164
        go_wp2_with fail
        refine (H1.out _).mono ?_
        rintro e w1 ⟨rfl, rfl⟩
        go_wp2_with fail
        refine (H2.out _).mono ?_
        rintro e w1 ⟨rfl, rfl⟩
        go_wp2_with fail
        go_ret2
        first | exact ⟨rfl, rfl⟩ | (refine ⟨?_, rfl⟩; simp [go_sem]; omega)
      · rw [if_neg hL, if_neg hL, show (n : Int) - 1 + 1 = n by omega]
        go_enter Tryz.func164, Tryz.ntmps164
        go_wp2_with fail
        refine (H1.out _).mono ?_
        rintro e w1 ⟨rfl, rfl⟩
        go_wp2_with fail
        refine (H2.out _).mono ?_
        rintro e w1 ⟨rfl, rfl⟩
        go_wp2_with fail
        go_ret2
        first | exact ⟨rfl, rfl⟩ | (refine ⟨?_, rfl⟩; simp [go_sem]; omega)
    · rw [show min T ((n : Int) - 1) = T by omega]
      by_cases hL : T < F
      · rw [if_pos hL, if_pos hL]
        go_enter Tryz.func164, Tryz.ntmps164
        go_wp2_with fail
        refine (H1.out _).mono ?_
        rintro e w1 ⟨rfl, rfl⟩
        go_wp2_with fail
        refine (H2.out _).mono ?_
        rintro e w1 ⟨rfl, rfl⟩
        go_wp2_with fail
        go_ret2
        first | exact ⟨rfl, rfl⟩ | (refine ⟨?_, rfl⟩; simp [go_sem]; omega)
      · rw [if_neg hL, if_neg hL]
        go_enter Tryz.func164, Tryz.ntmps164
        go_wp2_with fail
        refine (H1.out _).mono ?_
        rintro e w1 ⟨rfl, rfl⟩
        go_wp2_with fail
        refine (H2.out _).mono ?_
        rintro e w1 ⟨rfl, rfl⟩
        go_wp2_with fail
        go_ret2
        first | exact ⟨rfl, rfl⟩ | (refine ⟨?_, rfl⟩; simp [go_sem]; omega)
end Go.Proofs.YtmaancidkpfopaaGreatDoor

/- WALKS of what texts can do. -/
namespace Go.Proofs.YtmaancidkpfopaaGreatDoor
open Go.RowKit

def tval (t : ByteArray) : Value := .agg #[.int .i64 1, .string t, .slice none 0 0, .slice none 0 0, .slice none 0 0]
def zval : Value := .agg #[.int .i64 0, .string ⟨#[]⟩, .slice none 0 0, .slice none 0 0, .slice none 0 0]
def Itm.txt (t : ByteArray) : Itm := ⟨1, t, [], [], []⟩
theorem tval_is (w : World) (t : ByteArray) (ht : t.size ≤ maxLen) : ItemIs w (tval t) (Itm.txt t) :=
  ⟨⟨none, 0, none, 0, none, 0, rfl, .inl rfl, .inl rfl, .inl rfl⟩, ht, by simp [Itm.txt], by simp [Itm.txt], by simp [Itm.txt], by simp [Itm.txt], by simp [Itm.txt], by simp [Itm.txt]⟩
theorem zval_is (w : World) : ItemIs w zval Itm.none :=
  ⟨⟨none, 0, none, 0, none, 0, rfl, .inl rfl, .inl rfl, .inl rfl⟩, (show (0 : Nat) ≤ maxLen by simp), by simp [Itm.none], by simp [Itm.none], by simp [Itm.none], by simp [Itm.none], by simp [Itm.none], by simp [Itm.none]⟩

theorem asI_text {x : Itm} (h : asI x 1 = 0) : x.t.size ≤ 60 ∧ (x.k = 0 ∧ x.t.toList = [] ∨ x.k = 1) := by
  unfold asI at h
  split at h
  · rename_i hn
    simp only [Itm.isNone, decide_eq_true_eq] at hn
    have : x.t.size = 0 := by
      have h2 := congrArg List.length hn.2.1
      rw [ByteArray.toList_eq, size_list] at h2
      exact h2
    exact ⟨by omega, .inl ⟨hn.1, hn.2.1⟩⟩
  · split at h
    · rename_i h1; exact absurd h h1
    · rename_i h1
      split at h
      · cases h
      · rename_i hk
        have hk1 : x.k = 1 := by
          rcases Int.lt_trichotomy x.k 1 with h' | h' | h'
          · exact absurd (by omega) hk
          · exact h'
          · exact absurd (by omega) hk
        refine ⟨?_, .inr hk1⟩
        have h2 : chkI x = 0 := by
          rcases Classical.em (chkI x = 0) with h' | h'
          · exact h'
          · exact absurd h' h1
        unfold chkI at h2
        rw [if_neg (by omega)] at h2
        split at h2
        · cases h2
        · rw [if_neg (by omega), if_neg (by omega), if_neg (by omega), if_neg (by omega)] at h2
          split at h2
          · cases h2
          · rename_i hl
            simp only [longT, decide_eq_true_eq] at hl
            omega
theorem txt_as (t : ByteArray) (ht : t.size ≤ 60) : asI (Itm.txt t) 1 = 0 := by
  have h1 : chkI (Itm.txt t) = 0 := by
    unfold chkI
    rw [if_neg (by simp [Itm.txt]), if_neg (by simp [Itm.txt, otherI]), if_neg (by simp [Itm.txt]), if_neg (by simp [Itm.txt]), if_neg (by simp [Itm.txt]), if_neg (by simp [Itm.txt]), if_neg (show ¬ longT (Itm.txt t).t = true from (show ¬ longT t = true by unfold longT; simp; omega))]
  unfold asI
  split
  · rfl
  · rw [if_neg (by simp [h1]), if_neg (by simp [Itm.txt])]

/-- what comes of Append -/
def appE (x : Itm) (s : ByteArray) : Int := if asI x 1 ≠ 0 then asI x 1 else if 60 < x.t.size + s.size then 2 else 0
def appV (x : Itm) (s : ByteArray) : Value := if appE x s = 0 then .tuple #[tval (x.t ++ s), .int .i64 ((x.t.size + s.size : Nat)), .int .i64 0] else .tuple #[zval, .int .i64 0, .int .i64 (appE x s)]

set_option maxRecDepth 100000 in
set_option maxHeartbeats 2000000 in
theorem append_any (v : Value) (x : Itm) (s : ByteArray) (w : World) (h : ItemIs w v x) (hs : s.size ≤ 281474976710656) :
    Calls Tryz.prog 77 #[v, .string s] w fun e w' => e = .returned (appV x s) ∧ Below w.heap.size w w' := by
  have HC : Hid (∀ W, Below w.heap.size w W → Calls Tryz.prog 115 #[v, .int .i64 1] W fun e w' => e = .returned (.int .i64 (asI x 1)) ∧ Below W.heap.size W w') := fun W hW => common_any v x 1 W (h.below hW)
  obtain ⟨⟨a1, c1, a2, c2, a3, c3, rfl, -, -, -⟩, tz, -, -, -, -, -, -⟩ := h
  by_cases h0 : asI x 1 = 0
  · have hx60 := (asI_text h0).1
    by_cases hm : 60 < x.t.size + s.size
    · have he : appE x s = 2 := by rw [appE, if_neg (by simp [h0]), if_pos hm]
      have hv : appV x s = .tuple #[zval, .int .i64 0, .int .i64 2] := by rw [appV, he, if_neg (by decide)]
      rw [hv]
      have hm' : (60 : Int) < ((x.t.size : Nat) : Int) + ((s.size : Nat) : Int) := by omega
      rw [h0] at HC
      clear he hv h0
      generalize x.t = t at *
      generalize x.k = k at *
      generalize x.l.length = n1 at *
      generalize x.p.length = n2 at *
      generalize x.s.length = n3 at *
      go_enter Tryz.func77, Tryz.ntmps77
      go_wp2_with fail
      refine (HC.out _ (((Below.refl _ w).alloc (Nat.le_refl _) _).alloc (by simp) _)).mono ?_
      rintro e w1 ⟨rfl, hb1⟩
      obtain ⟨hc, hf⟩ := bcell hb1
      have hz : w.heap.size + 1 < w1.heap.size := by have := hb1.size; simp at this; omega
      have hB1 : Below w.heap.size w w1 := (((Below.refl _ w).alloc (Nat.le_refl _) _).alloc (by simp) _).trans (hb1.mono (by simp; omega))
      go_wp2_with fail
      refine bodyPost_ret (v := .tuple #[zval, .int .i64 0, .int .i64 2]) (by simp [results, Tryz.results77, go_sem, hc, zval]) rfl ⟨rfl, ?_⟩
      go_grown
    · have he : appE x s = 0 := by rw [appE, if_neg (by simp [h0]), if_neg hm]
      have hv : appV x s = .tuple #[tval (x.t ++ s), .int .i64 (((x.t.size : Nat) : Int) + ((s.size : Nat) : Int)), .int .i64 0] := by rw [appV, if_pos he]; simp
      rw [hv]
      have hm' : ¬ (60 : Int) < ((x.t.size : Nat) : Int) + ((s.size : Nat) : Int) := by omega
      have hm2 : ¬ 9223372036854775807 < x.t.size + s.size := by omega
      rw [h0] at HC
      clear he hv h0
      generalize x.t = t at *
      generalize x.k = k at *
      generalize x.l.length = n1 at *
      generalize x.p.length = n2 at *
      generalize x.s.length = n3 at *
      go_enter Tryz.func77, Tryz.ntmps77
      go_wp2_with fail
      refine (HC.out _ (((Below.refl _ w).alloc (Nat.le_refl _) _).alloc (by simp) _)).mono ?_
      rintro e w1 ⟨rfl, hb1⟩
      obtain ⟨hc, hf⟩ := bcell hb1
      have hz : w.heap.size + 1 < w1.heap.size := by have := hb1.size; simp at this; omega
      have hB1 : Below w.heap.size w w1 := (((Below.refl _ w).alloc (Nat.le_refl _) _).alloc (by simp) _).trans (hb1.mono (by simp; omega))
      go_wp2_with fail
      refine bodyPost_ret (v := .tuple #[tval (t ++ s), .int .i64 (((t.size : Nat) : Int) + ((s.size : Nat) : Int)), .int .i64 0]) (by simp [results, Tryz.results77, go_sem, hc, tval]) rfl ⟨rfl, ?_⟩
      go_grown
  · have he : appE x s = asI x 1 := by rw [appE, if_pos h0]
    have hv : appV x s = .tuple #[zval, .int .i64 0, .int .i64 (asI x 1)] := by rw [appV, he, if_neg h0]
    have h0' : (asI x 1 == 0) = false := by rw [beq_eq_false_iff_ne]; exact h0
    rw [hv]
    clear he hv
    generalize asI x 1 = E at *
    generalize x.t = t at *
    generalize x.k = k at *
    generalize x.l.length = n1 at *
    generalize x.p.length = n2 at *
    generalize x.s.length = n3 at *
    go_enter Tryz.func77, Tryz.ntmps77
    go_wp2_with fail
    refine (HC.out _ (((Below.refl _ w).alloc (Nat.le_refl _) _).alloc (by simp) _)).mono ?_
    rintro e w1 ⟨rfl, hb1⟩
    obtain ⟨hc, hf⟩ := bcell hb1
    have hz : w.heap.size + 1 < w1.heap.size := by have := hb1.size; simp at this; omega
    have hB1 : Below w.heap.size w w1 := (((Below.refl _ w).alloc (Nat.le_refl _) _).alloc (by simp) _).trans (hb1.mono (by simp; omega))
    go_wp2_with fail
    refine bodyPost_ret (v := .tuple #[zval, .int .i64 0, .int .i64 E]) (by simp [results, Tryz.results77, go_sem, hc, zval]) rfl ⟨rfl, ?_⟩
    go_grown

def rngV (x : Itm) (f t : Int) : Value := if asI x 1 = 0 then .tuple #[.string (x.t.extract (place1 x.t.size f t) (place2 x.t.size f t)), .int .i64 0] else .tuple #[.string ⟨#[]⟩, .int .i64 (asI x 1)]
set_option maxRecDepth 100000 in
set_option maxHeartbeats 2000000 in
theorem range_any (v : Value) (x : Itm) (from_ to_ : Int) (w : World) (h : ItemIs w v x) (hf : -9223372036854775808 ≤ from_) (ht : -9223372036854775808 ≤ to_) (hf2 : from_ ≤ 9223372036854775807) (ht2 : to_ ≤ 9223372036854775807) :
    Calls Tryz.prog 85 #[v, .int .i64 from_, .int .i64 to_] w fun e w' => e = .returned (rngV x from_ to_) ∧ Below w.heap.size w w' := by
  have HC : Hid (∀ W, Below w.heap.size w W → Calls Tryz.prog 115 #[v, .int .i64 1] W fun e w' => e = .returned (.int .i64 (asI x 1)) ∧ Below W.heap.size W w') := fun W hW => common_any v x 1 W (h.below hW)
  obtain ⟨⟨a1, c1, a2, c2, a3, c3, rfl, -, -, -⟩, tz, -, -, -, -, -, -⟩ := h
  by_cases h0 : asI x 1 = 0
  · have hx60 := (asI_text h0).1
    have hv : rngV x from_ to_ = .tuple #[.string (x.t.extract (place1 x.t.size from_ to_) (place2 x.t.size from_ to_)), .int .i64 0] := by rw [rngV, if_pos h0]
    rw [hv]
    rw [h0] at HC
    clear hv h0
    obtain ⟨p1, p2⟩ := place_le x.t.size from_ to_
    have HP : Hid (∀ W, Calls Tryz.prog 164 #[.int .i64 x.t.size, .int .i64 from_, .int .i64 to_] W fun e w' => e = .returned (.tuple #[.int .i64 (place1 x.t.size from_ to_), .int .i64 (place2 x.t.size from_ to_)]) ∧ w' = W) := fun W => places_any _ _ _ W (by omega) hf ht hf2 ht2
    generalize place1 x.t.size from_ to_ = P1 at *
    generalize place2 x.t.size from_ to_ = P2 at *
    generalize x.t = t at *
    generalize x.k = k at *
    generalize x.l.length = n1 at *
    generalize x.p.length = n2 at *
    generalize x.s.length = n3 at *
    go_enter Tryz.func85, Tryz.ntmps85
    go_wp2_with fail
    refine (HC.out _ ((Below.refl _ w).alloc (Nat.le_refl _) _)).mono ?_
    rintro e w1 ⟨rfl, hb1⟩
    obtain ⟨hc, hf⟩ := bcell hb1
    have hz : w.heap.size < w1.heap.size := by have := hb1.size; simp at this; omega
    have hB1 : Below w.heap.size w w1 := ((Below.refl _ w).alloc (Nat.le_refl _) _).trans (hb1.mono (by simp))
    go_wp2_with fail
    refine (HP.out _).mono ?_
    rintro e w2 ⟨rfl, rfl⟩
    go_wp2_with fail
    go_ret2
    exact ⟨rfl, hB1⟩
  · have hv : rngV x from_ to_ = .tuple #[.string ⟨#[]⟩, .int .i64 (asI x 1)] := by rw [rngV, if_neg h0]
    have h0' : (asI x 1 == 0) = false := by rw [beq_eq_false_iff_ne]; exact h0
    rw [hv]
    clear hv
    generalize asI x 1 = E at *
    generalize x.t = t at *
    generalize x.k = k at *
    generalize x.l.length = n1 at *
    generalize x.p.length = n2 at *
    generalize x.s.length = n3 at *
    go_enter Tryz.func85, Tryz.ntmps85
    go_wp2_with fail
    refine (HC.out _ ((Below.refl _ w).alloc (Nat.le_refl _) _)).mono ?_
    rintro e w1 ⟨rfl, hb1⟩
    obtain ⟨hc, hf⟩ := bcell hb1
    have hz : w.heap.size < w1.heap.size := by have := hb1.size; simp at this; omega
    have hB1 : Below w.heap.size w w1 := ((Below.refl _ w).alloc (Nat.le_refl _) _).trans (hb1.mono (by simp))
    go_wp2_with fail
    go_ret2
    exact ⟨rfl, hB1⟩
end Go.Proofs.YtmaancidkpfopaaGreatDoor

/- WALKS: what get asks of an item. -/
namespace Go.Proofs.YtmaancidkpfopaaGreatDoor
open Go.RowKit

/-- the whole text of an item -/
def wholeT (x : Itm) : ByteArray := if x.isNone then ⟨#[]⟩ else if asI x 1 = 0 then x.t.extract (place1 x.t.size 0 (-1)) (place2 x.t.size 0 (-1)) else ⟨#[]⟩
def wholeE (x : Itm) : Int := if x.isNone then 5 else asI x 1
set_option linter.unusedSimpArgs false in
theorem rngV_whole (x : Itm) (h : x.isNone = false) : rngV x 0 (-1) = .tuple #[.string (wholeT x), .int .i64 (wholeE x)] := by
  unfold rngV wholeT wholeE
  rw [h]
  split <;> rename_i h2
  · simp [h2]
  · simp [h2]
theorem nothing_is (W : World) (v : Value) (x : Itm) (hv : ItemIs W v x) : Calls Tryz.prog 160 #[v] W fun e w' => e = .returned (.bool x.isNone) ∧ Below W.heap.size W w' := by
  obtain ⟨a1, c1, a2, c2, a3, c3, rfl⟩ := shapeE hv
  rw [← isNone_len]
  exact isNothing_any _ _ _ _ _ _ _ _ _ _ _ W
set_option maxRecDepth 100000 in
set_option maxHeartbeats 4000000 in
theorem whole_any (v : Value) (x : Itm) (w : World) (h : ItemIs w v x) :
    Calls Tryz.prog 71 #[v] w fun e w' => e = .returned (.tuple #[.string (wholeT x), .int .i64 (wholeE x)]) ∧ Below w.heap.size w w' := by
  obtain ⟨a1, c1, a2, c2, a3, c3, rfl⟩ := shapeE h
  have HN := hide (fun W (hW : Below w.heap.size w W) => nothing_is W _ x (h.below hW))
  have HR : Hid (∀ W, Below w.heap.size w W → x.isNone = false → Calls Tryz.prog 85 #[.agg #[.int .i64 x.k, .string x.t, .slice a1 x.l.length c1, .slice a2 x.p.length c2, .slice a3 x.s.length c3], .int .i64 0, .int .i64 (-1)] W fun e w' => e = .returned (.tuple #[.string (wholeT x), .int .i64 (wholeE x)]) ∧ Below W.heap.size W w') := fun W hW hn => by
    rw [← rngV_whole x hn]
    exact range_any _ x 0 (-1) W (h.below hW) (by decide) (by decide) (by decide) (by decide)
  have HT : Hid (x.isNone = true → wholeT x = ⟨#[]⟩ ∧ wholeE x = 5) := fun hn => by
    unfold wholeT wholeE
    rw [hn]
    exact ⟨rfl, rfl⟩
  obtain ⟨V, hV, AV, XB⟩ : ∃ V, w.alloc (.cells #[.int .i64 x.k, .string x.t, .slice a1 x.l.length c1, .slice a2 x.p.length c2, .slice a3 x.s.length c3] 40) = V ∧ Below w.heap.size w V ∧ V.heap[w.heap.size]? = some (.cells #[.int .i64 x.k, .string x.t, .slice a1 x.l.length c1, .slice a2 x.p.length c2, .slice a3 x.s.length c3] 40) := ⟨_, rfl, (Below.refl _ w).alloc (Nat.le_refl _) _, by show (w.heap.push _)[w.heap.size]? = _; simp⟩
  have d0 : V.cell? ⟨w.heap.size, 0, none⟩ = some (.int .i64 x.k) := by simp [World.cell?, XB]
  have d1 : V.cell? ⟨w.heap.size, 1, none⟩ = some (.string x.t) := by simp [World.cell?, XB]
  have d2 : V.cell? ⟨w.heap.size, 2, none⟩ = some (.slice a1 x.l.length c1) := by simp [World.cell?, XB]
  have d3 : V.cell? ⟨w.heap.size, 3, none⟩ = some (.slice a2 x.p.length c2) := by simp [World.cell?, XB]
  have d4 : V.cell? ⟨w.heap.size, 4, none⟩ = some (.slice a3 x.s.length c3) := by simp [World.cell?, XB]
  have hz : w.heap.size < V.heap.size := (Array.getElem?_eq_some_iff.1 XB).1
  have HAV := hide AV
  have HD := hide (fun (W : World) (hW : Below V.heap.size V W) => And.intro ((hW.cell (p := ⟨w.heap.size, 0, none⟩) hz).trans d0) (And.intro ((hW.cell (p := ⟨w.heap.size, 1, none⟩) hz).trans d1) (And.intro ((hW.cell (p := ⟨w.heap.size, 2, none⟩) hz).trans d2) (And.intro ((hW.cell (p := ⟨w.heap.size, 3, none⟩) hz).trans d3) ((hW.cell (p := ⟨w.heap.size, 4, none⟩) hz).trans d4)))))
  clear h XB AV
  generalize wholeT x = T at *
  generalize wholeE x = E at *
  generalize x.isNone = NB at *
  generalize x.t = t at *
  generalize x.k = k at *
  generalize x.l.length = n1 at *
  generalize x.p.length = n2 at *
  generalize x.s.length = n3 at *
  go_enter Tryz.func71, Tryz.ntmps71
  go_wp2_with fail
  clear hV
  refine (HN.out _ HAV.out).mono ?_
  rintro e w1 ⟨rfl, hb1⟩
  have HB1 := hide (HAV.out.trans (hb1.mono HAV.out.size))
  obtain ⟨q0, q1, q2, q3, q4⟩ := HD.out _ hb1
  clear d0 d1 d2 d3 d4 hb1
  cases NB with
  | true =>
    obtain ⟨rfl, rfl⟩ := HT.out rfl
    go_wp2_with fail
    refine bodyPost_ret (v := .tuple #[.string ⟨#[]⟩, .int .i64 5]) (by simp [results, Tryz.results71, go_sem]) rfl ⟨rfl, HB1.out⟩
  | false =>
    go_wp2_with fail
    refine (HR.out _ HB1.out (by first | rfl | trivial)).mono ?_
    rintro e w2 ⟨rfl, hb2⟩
    have HB2 := hide (HB1.out.trans (hb2.mono HB1.out.size))
    clear hb2 q0 q1 q2 q3 q4
    go_wp2_with fail
    refine bodyPost_ret (v := .tuple #[.string T, .int .i64 E]) (by simp [results, Tryz.results71, go_sem]) rfl ⟨rfl, HB2.out⟩
set_option maxRecDepth 100000 in
set_option maxHeartbeats 4000000 in
theorem asBytes_any (t : ByteArray) (E : Int) (w : World) :
    Calls Tryz.prog 70 #[.string t, .int .i64 E] w fun e w' => e = .returned (.tuple #[.agg #[.int .i64 4, .string t, .int .i64 0, .slice none 0 0], .int .i64 E]) ∧ Below w.heap.size w w' := by
  have HN := hide bytesReply_any
  unfold repV at HN
  obtain ⟨V, hV, AV, RB⟩ : ∃ V, w.alloc (.cells #[.int .i64 0, .string ⟨#[]⟩, .int .i64 0, .slice none 0 0] 27) = V ∧ Below w.heap.size w V ∧ V.heap[w.heap.size]? = some (.cells #[.int .i64 0, .string ⟨#[]⟩, .int .i64 0, .slice none 0 0] 27) := ⟨_, rfl, (Below.refl _ w).alloc (Nat.le_refl _) _, by show (w.heap.push _)[w.heap.size]? = _; simp⟩
  have HRB := hide RB
  have HAV := hide AV
  clear RB AV
  go_enter Tryz.func70, Tryz.ntmps70
  go_wp2_with fail
  clear hV
  refine (HN.out _ _).mono ?_
  rintro e wz ⟨rfl, hbz⟩
  have RZ := (hbz.block _ (Array.getElem?_eq_some_iff.1 HRB.out).1).trans HRB.out
  have HPR := hide (put4R RZ (.int .i64 4) (.string t) (.int .i64 0) (.slice none 0 0))
  have HBB := hide (HAV.out.trans (hbz.mono HAV.out.size))
  have m0 : wz.cell? ⟨w.heap.size, 0, none⟩ = some (.int .i64 0) := by simp [World.cell?, RZ]
  have n0 : wz.frozen? ⟨w.heap.size, 0, none⟩ = false := by simp [World.frozen?, RZ]
  have m1 : wz.cell? ⟨w.heap.size, 1, none⟩ = some (.string ⟨#[]⟩) := by simp [World.cell?, RZ]
  have n1 : wz.frozen? ⟨w.heap.size, 1, none⟩ = false := by simp [World.frozen?, RZ]
  have m2 : wz.cell? ⟨w.heap.size, 2, none⟩ = some (.int .i64 0) := by simp [World.cell?, RZ]
  have n2 : wz.frozen? ⟨w.heap.size, 2, none⟩ = false := by simp [World.frozen?, RZ]
  have m3 : wz.cell? ⟨w.heap.size, 3, none⟩ = some (.slice none 0 0) := by simp [World.cell?, RZ]
  have n3 : wz.frozen? ⟨w.heap.size, 3, none⟩ = false := by simp [World.frozen?, RZ]
  clear RZ hbz
  go_wp2_with fail
  obtain ⟨hH, hKp⟩ := HPR.out
  generalize ((((wz.setCell ⟨w.heap.size, 0, none⟩ (.int .i64 4)).setCell ⟨w.heap.size, 1, none⟩ (.string t)).setCell ⟨w.heap.size, 2, none⟩ (.int .i64 0)).setCell ⟨w.heap.size, 3, none⟩ (.slice none 0 0)) = V4 at *
  refine bodyPost_ret (v := .tuple #[.agg #[.int .i64 4, .string t, .int .i64 0, .slice none 0 0], .int .i64 E]) (by simp [results, Tryz.results70, go_sem, World.cell?, hH]) rfl ⟨rfl, HBB.out.trans (hKp.below (B := w.heap.size) (by have := HBB.out.size; omega) (fun k hk => by simp only [one] at hk; omega))⟩
set_option maxRecDepth 100000 in
set_option maxHeartbeats 4000000 in
theorem getAsk_any (v : Value) (x : Itm) (a : Option Addr) (n cl : Nat) (w : World) (h : ItemIs w v x) :
    Calls Tryz.prog 69 #[v, .slice a n cl] w fun e w' => e = .returned (.tuple #[repV 4 (wholeT x) 0, .int .i64 (wholeE x)]) ∧ Below w.heap.size w w' := by
  obtain ⟨a1, c1, a2, c2, a3, c3, rfl⟩ := shapeE h
  have HW := hide (fun W (hW : Below w.heap.size w W) => whole_any _ x W (h.below hW))
  have HA := hide asBytes_any
  unfold repV
  obtain ⟨V, hV, AV, XB⟩ : ∃ V, w.alloc (.cells #[.int .i64 x.k, .string x.t, .slice a1 x.l.length c1, .slice a2 x.p.length c2, .slice a3 x.s.length c3] 40) = V ∧ Below w.heap.size w V ∧ V.heap[w.heap.size]? = some (.cells #[.int .i64 x.k, .string x.t, .slice a1 x.l.length c1, .slice a2 x.p.length c2, .slice a3 x.s.length c3] 40) := ⟨_, rfl, (Below.refl _ w).alloc (Nat.le_refl _) _, by show (w.heap.push _)[w.heap.size]? = _; simp⟩
  obtain ⟨V2, hV2, AV2, RB⟩ : ∃ V2, V.alloc (.cells #[.int .i64 0, .string ⟨#[]⟩, .int .i64 0, .slice none 0 0] 27) = V2 ∧ Below V.heap.size V V2 ∧ V2.heap[V.heap.size]? = some (.cells #[.int .i64 0, .string ⟨#[]⟩, .int .i64 0, .slice none 0 0] 27) := ⟨_, rfl, (Below.refl _ V).alloc (Nat.le_refl _) _, by show (V.heap.push _)[V.heap.size]? = _; simp⟩
  have XB2 := (AV2.block _ (Array.getElem?_eq_some_iff.1 XB).1).trans XB
  have d0 : V2.cell? ⟨w.heap.size, 0, none⟩ = some (.int .i64 x.k) := by simp [World.cell?, XB2]
  have d1 : V2.cell? ⟨w.heap.size, 1, none⟩ = some (.string x.t) := by simp [World.cell?, XB2]
  have d2 : V2.cell? ⟨w.heap.size, 2, none⟩ = some (.slice a1 x.l.length c1) := by simp [World.cell?, XB2]
  have d3 : V2.cell? ⟨w.heap.size, 3, none⟩ = some (.slice a2 x.p.length c2) := by simp [World.cell?, XB2]
  have d4 : V2.cell? ⟨w.heap.size, 4, none⟩ = some (.slice a3 x.s.length c3) := by simp [World.cell?, XB2]
  have HVZ : Hid (w.heap.size ≤ V.heap.size) := AV.size
  have HRB := hide RB
  have HAV : Hid (Below w.heap.size w V2) := AV.trans (AV2.mono AV.size)
  clear h XB XB2 AV AV2 RB
  generalize wholeT x = T at *
  generalize wholeE x = E at *
  generalize x.t = t at *
  generalize x.k = k at *
  generalize x.l.length = n1 at *
  generalize x.p.length = n2 at *
  generalize x.s.length = n3 at *
  go_enter Tryz.func69, Tryz.ntmps69
  go_wp2_with fail
  clear hV hV2
  refine (HW.out _ HAV.out).mono ?_
  rintro e w1 ⟨rfl, hb1⟩
  clear d0 d1 d2 d3 d4
  go_wp2_with fail
  refine (HA.out _ _ _).mono ?_
  rintro e w2 ⟨rfl, hb2⟩
  have hb12 := hb1.trans (hb2.mono hb1.size)
  have RZ := (hb12.block _ (Array.getElem?_eq_some_iff.1 HRB.out).1).trans HRB.out
  have HPR := hide (put4R RZ (.int .i64 4) (.string T) (.int .i64 0) (.slice none 0 0))
  have HBB := hide (HAV.out.trans (hb12.mono HAV.out.size))
  have m0 : w2.cell? ⟨V.heap.size, 0, none⟩ = some (.int .i64 0) := by simp [World.cell?, RZ]
  have n0 : w2.frozen? ⟨V.heap.size, 0, none⟩ = false := by simp [World.frozen?, RZ]
  have m1 : w2.cell? ⟨V.heap.size, 1, none⟩ = some (.string ⟨#[]⟩) := by simp [World.cell?, RZ]
  have n1 : w2.frozen? ⟨V.heap.size, 1, none⟩ = false := by simp [World.frozen?, RZ]
  have m2 : w2.cell? ⟨V.heap.size, 2, none⟩ = some (.int .i64 0) := by simp [World.cell?, RZ]
  have n2 : w2.frozen? ⟨V.heap.size, 2, none⟩ = false := by simp [World.frozen?, RZ]
  have m3 : w2.cell? ⟨V.heap.size, 3, none⟩ = some (.slice none 0 0) := by simp [World.cell?, RZ]
  have n3 : w2.frozen? ⟨V.heap.size, 3, none⟩ = false := by simp [World.frozen?, RZ]
  clear RZ hb1 hb2 hb12
  go_wp2_with fail
  obtain ⟨hH, hKp⟩ := HPR.out
  generalize ((((w2.setCell ⟨V.heap.size, 0, none⟩ (.int .i64 4)).setCell ⟨V.heap.size, 1, none⟩ (.string T)).setCell ⟨V.heap.size, 2, none⟩ (.int .i64 0)).setCell ⟨V.heap.size, 3, none⟩ (.slice none 0 0)) = V4 at *
  refine bodyPost_ret (v := .tuple #[.agg #[.int .i64 4, .string T, .int .i64 0, .slice none 0 0], .int .i64 E]) (by simp [results, Tryz.results69, go_sem, World.cell?, hH]) rfl ⟨rfl, HBB.out.trans (hKp.below (B := w.heap.size) (by have := HBB.out.size; omega) (fun k hk => by simp only [one] at hk; have := HVZ.out; omega))⟩
end Go.Proofs.YtmaancidkpfopaaGreatDoor

/- Spaces as plain data: what is put, taken away, or kept for ever twice. -/
namespace Go.Proofs.YtmaancidkpfopaaGreatDoor
open Go.RowKit

theorem putErr_none {s : List Ent} {now : Int} {key : ByteArray} {x : Itm} {til : Int} (h1 : chkKey s now key = 0) (h2 : rightI x = 0) (h3 : tilBad now til = false) : putErr s now key x til = 0 := by
  unfold putErr
  rw [if_neg (by simp [h1]), if_neg (by simp [h2]), if_neg (by simp [h3])]
theorem put_nothing {s : List Ent} {now : Int} {key : ByteArray} {x : Itm} {til : Int} (h : putErr s now key x til = 0) (hn : x.isNone = true) : putE s now key x til = 0 ∧ putS s now key x til = othersE s key := by
  have hne : ¬ putErr s now key x til ≠ 0 := fun k => k h
  unfold putE putS
  rw [if_neg hne, if_neg hne, if_pos hn, if_pos hn]
  exact ⟨rfl, rfl⟩
theorem put_thing {s : List Ent} {now : Int} {key : ByteArray} {x : Itm} {til : Int} (h : putErr s now key x til = 0) (hn : x.isNone = false) (hl : (roomE (othersE s key) now).length < 16) : putE s now key x til = 0 ∧ putS s now key x til = insS (roomE (othersE s key) now) ⟨key, x, til⟩ := by
  have hne : ¬ putErr s now key x til ≠ 0 := fun k => k h
  have hnn : ¬ x.isNone = true := by simp [hn]
  have hll : ¬ 16 ≤ (roomE (othersE s key) now).length := by omega
  unfold putE putS
  rw [if_neg hne, if_neg hne, if_neg hnn, if_neg hnn, if_neg hll, if_neg hll]
  exact ⟨rfl, rfl⟩
/-- a put that may be done finds room, or does not -/
theorem put_two {s : List Ent} {now : Int} {key : ByteArray} {x : Itm} {til : Int} (h : putErr s now key x til = 0) (h0 : putE s now key x til ≠ 0) : putE s now key x til = 2 := by
  unfold putE at h0 ⊢
  rw [if_neg (by simp [h])] at h0 ⊢
  cases hn : x.isNone with
  | true => rw [if_pos hn] at h0; exact absurd rfl h0
  | false =>
    rw [if_neg (by simp [hn])] at h0 ⊢
    by_cases h8 : 16 ≤ (roomE (othersE s key) now).length
    · rw [if_pos h8]
    · rw [if_neg h8] at h0; exact absurd rfl h0
theorem others_ins {R : List Ent} {key : ByteArray} {x : Itm} {til : Int} (h : ∀ y ∈ R, y.key ≠ key) : othersE (insS R ⟨key, x, til⟩) key = R := by
  unfold othersE insS
  rw [List.filter_append, List.filter_cons_of_neg (by simp), ← List.filter_append, List.takeWhile_append_dropWhile]
  exact List.filter_eq_self.2 (fun y hy => by simp [h y hy])
theorem others_twice (s : List Ent) (key : ByteArray) : othersE (othersE s key) key = othersE s key := by
  unfold othersE
  rw [List.filter_filter]
  simp
theorem room_few {R : List Ent} {now : Int} (h : R.length < 16) : roomE R now = R := by
  unfold roomE
  rw [if_neg (by omega)]
theorem PutOk.key {s : List Ent} {now : Int} {key : ByteArray} {x : Itm} {til : Int} (h : PutOk s now key x til) (k : ByteArray) (hk : longT k = false) : chkKey (putS s now key x til) now k = 0 := chkKey_of h.right (timeT_iff.2 h.tm) hk
/-- what is put twice is put once -/
theorem PutOk.again {s : List Ent} {now : Int} {key : ByteArray} {x : Itm} {til : Int} (h : PutOk s now key x til) : putE (putS s now key x til) now key x til = 0 ∧ putS (putS s now key x til) now key x til = putS s now key x til := by
  have he : putErr (putS s now key x til) now key x til = 0 := putErr_none (h.key key h.kl) h.rx h.tb
  rcases h.put with ⟨hn, e⟩ | ⟨hc, hl, e⟩
  · obtain ⟨p1, p2⟩ := put_nothing he hn
    refine ⟨p1, p2.trans ?_⟩
    rw [e, others_twice]
  · have ho : othersE (putS s now key x til) key = roomE (othersE s key) now := by
      rw [e]
      exact others_ins (fun y hy => (othersE_mem.1 (roomE_mem hy)).2)
    have hr : roomE (othersE (putS s now key x til) key) now = roomE (othersE s key) now := by rw [ho, room_few hl]
    obtain ⟨p1, p2⟩ := put_thing he (right_notNone hc) (by rw [hr]; exact hl)
    refine ⟨p1, p2.trans ?_⟩
    rw [hr, e]
theorem PutOk.got {s : List Ent} {now : Int} {key : ByteArray} {x : Itm} {til : Int} (h : PutOk s now key x til) : getR (putS s now key x til) now key = x := by
  unfold getR
  rw [if_pos (h.key key h.kl)]
  exact h.own
theorem PutOk.till {s : List Ent} {now : Int} {key : ByteArray} {x : Itm} {til : Int} (h : PutOk s now key x til) (hn : x.isNone = false) : untilR (putS s now key x til) now key = til := by
  unfold untilR
  rw [if_pos (h.key key h.kl)]
  rcases h.put with ⟨hn', _⟩ | ⟨hc, hl, e⟩
  · rw [hn] at hn'; cases hn'
  · have hm : (⟨key, x, til⟩ : Ent) ∈ putS s now key x til := by rw [e]; exact insS_mem.2 (.inl rfl)
    rw [look_mem h.right hm (there_of rfl h.notGone)]
    rfl
theorem til_never (now : Int) : tilBad now 0 = false := by simp [tilBad]
/-- a key may be taken away, whatever is there -/
theorem drop_ok {s : List Ent} {now : Int} {key : ByteArray} (h : chkKey s now key = 0) : putE s now key Itm.none 0 = 0 := (put_nothing (putErr_none h none_rightI (til_never now)) (by decide +kernel)).1
theorem drop_one {s : List Ent} {now : Int} {key : ByteArray} (h : chkKey s now key = 0) : dropR now [key] s 0 = (if (getR s now key).isNone then 0 else 1, 0, putS s now key Itm.none 0) := by
  unfold dropR
  rw [if_pos (drop_ok h)]
  unfold dropR keptS
  rw [if_pos (drop_ok h)]
theorem text_notNone (v : ByteArray) : (⟨1, v, [], [], []⟩ : Itm).isNone = false := by simp [Itm.isNone]
theorem text_chk {v : ByteArray} (h : v.size ≤ 60) : chkI ⟨1, v, [], [], []⟩ = 0 := by
  have h1 : longT v = false := by unfold longT; simp; omega
  simp [chkI, otherI, h1]
theorem whole_text {v : ByteArray} (h : v.size ≤ 60) : wholeT ⟨1, v, [], [], []⟩ = v ∧ wholeE ⟨1, v, [], [], []⟩ = 0 := by
  have h1 : asI ⟨1, v, [], [], []⟩ 1 = 0 := by
    unfold asI
    rw [if_neg (by simp [text_notNone]), if_neg (by simp [text_chk h]), if_neg (by simp)]
  unfold wholeT wholeE
  rw [if_neg (by simp [text_notNone]), if_pos h1, if_neg (by simp [text_notNone]), h1]
  refine ⟨?_, rfl⟩
  have h2 : place1 v.size 0 (-1) = 0 := by unfold place1 fromB; simp
  have h3 : place2 v.size 0 (-1) = v.size := by unfold place2 fromB; simp; split <;> omega
  rw [h2, h3]
  simp
theorem whole_nothing : wholeE Itm.none = 5 := by decide +kernel
end Go.Proofs.YtmaancidkpfopaaGreatDoor

/- What engine.Do answers, by the kinds of deeds. -/
namespace Go.Proofs.YtmaancidkpfopaaGreatDoor
open Go.RowKit

/-- what Do answers where a deed is done -/
def DoneP (s2 s : List Ent) (rk rn E : Int) (rt : ByteArray) (w : World) (e : Ending) (w' : World) : Prop :=
  (∃ a' c', e = .returned (.tuple #[.slice a' (if E = 0 then s2 else s).length c', if E = 0 then .agg #[.int .i64 rk, .string rt, .int .i64 rn, .slice none 0 0] else refuseV E, .int .i64 0]) ∧ SpaceAt w' a' (if E = 0 then s2 else s)) ∧ Below w.heap.size w w'
theorem DoneP.of {s2 s2' s : List Ent} {rk rk' rn rn' E E' : Int} {rt rt' : ByteArray} {w w' : World} {e : Ending} (h : DoneP s2 s rk rn E rt w e w') (hE : E = E') (he : E' = 0 → s2 = s2' ∧ rk = rk' ∧ rn = rn' ∧ rt = rt') : DoneP s2' s rk' rn' E' rt' w e w' := by
  subst hE
  by_cases h0 : E = 0
  · obtain ⟨rfl, rfl, rfl, rfl⟩ := he h0
    exact h
  · unfold DoneP at h ⊢
    rw [if_neg h0, if_neg h0] at h ⊢
    exact h
theorem DoneP.good {s2 s : List Ent} {rk rn : Int} {rt : ByteArray} {w w' : World} {e : Ending} (h : DoneP s2 s rk rn 0 rt w e w') : (∃ a' c', e = .returned (.tuple #[.slice a' s2.length c', .agg #[.int .i64 rk, .string rt, .int .i64 rn, .slice none 0 0], .int .i64 0]) ∧ SpaceAt w' a' s2) ∧ Below w.heap.size w w' := h
theorem DoneP.bad {s2 s : List Ent} {rk rn E : Int} {rt : ByteArray} {w w' : World} {e : Ending} (h : DoneP s2 s rk rn E rt w e w') (h0 : E ≠ 0) : (∃ a' c', e = .returned (.tuple #[.slice a' s.length c', refuseV E, .int .i64 0]) ∧ SpaceAt w' a' s) ∧ Below w.heap.size w w' := by
  unfold DoneP at h
  rw [if_neg h0, if_neg h0] at h
  exact h
theorem texts_some {w : World} {a : Option Addr} {x : ByteArray} {r : List ByteArray} (h : TextsAt w a (x :: r)) : ∃ g o, a = some ⟨g, o, none⟩ ∧ ∀ i (h : i < (x :: r).length), w.cell? ⟨g, o + i, none⟩ = some (.string (x :: r)[i]) := by
  rcases h with h | h
  · cases h
  · exact h
theorem cells_more {w W : World} {g o : Nat} {l : List ByteArray} (h : ∀ i (hi : i < l.length), w.cell? ⟨g, o + i, none⟩ = some (.string l[i])) (hW : Below w.heap.size w W) : ∀ i (hi : i < l.length), W.cell? ⟨g, o + i, none⟩ = some (.string l[i]) :=
  fun i hi => (hW.cell (World.block_lt_of_cell? _ _ (h i hi))).trans (h i hi)
theorem caps_nil {f g : Nat} {caps caps2 : Array Value} (h : (Value.func (.func f) #[] caps) = .func (.func g) #[] caps2) : caps = caps2 := by injection h
theorem words_size {l : List ByteArray} (h : wordsE l = 0) {t : ByteArray} (ht : t ∈ l) : t.size ≤ maxLen ∧ longT t = false := by
  have := (wordsE_ok h).2.2 t ht
  exact ⟨Nat.le_trans this (by unfold maxLen; omega), by unfold longT; simp; omega⟩
theorem checkP_plain {once again : ByteArray} {r : List ByteArray} (hf : fitsP once again r.length = true) (hl : ∀ i, i < r.length → letterP once again i ≠ 110) : checkP once again r = 0 := by
  unfold checkP
  rw [if_neg (by simp [hf]), if_neg (any_good (fun j hj => by unfold badN; rw [decide_eq_false (hl j hj)]; simp))]
set_option maxRecDepth 100000 in
/-- a deed that is a function of its own -/
theorem do_one (a : Option Addr) (c : Nat) (s : List Ent) (now : Int) (g0 o0 cl : Nat) (x : ByteArray) (r : List ByteArray) (i : Nat) (hi : i < cmds.length) (f : Nat) (s2 : List Ent) (rk rn E : Int) (rt : ByteArray) (w : World) (he : Env w) (hs : SpaceAt w a s) (hc : chkSp s = 0) (ht : timeT now = true)
    (hl : ∀ i (h : i < (x :: r).length), w.cell? ⟨g0, o0 + i, none⟩ = some (.string (x :: r)[i])) (hcl : r.length + 1 ≤ cl) (h0 : wordsE (x :: r) = 0) (hidx : idxC (smallT x) cmds 0 = i) (hck : checkP cmds[i].once cmds[i].again r = 0)
    (hcf : ∀ (args : Array Value) (W : World), (callFunc f args).run Tryz.prog W = .ok (.enter f args) W) (hded : cmds[i].ded = .one f)
    (HF : ∀ W b ar S, Below w.heap.size w W → w.heap.size < b → (∀ k, S k → k < W.heap.size ∧ k ≠ b) → KeepS S W b s now → TextsAt w ar r → Calls Tryz.prog f #[.pointer (some ⟨b, 0, none⟩), .slice ar r.length (cl - 1)] W fun e w' => e = .returned (.tuple #[.agg #[.int .i64 rk, .string rt, .int .i64 rn, .slice none 0 0], .int .i64 E]) ∧ KeepS S w' b s2 now ∧ Kept (one b) W w') :
    Calls Tryz.prog 5 #[.slice a s.length c, .int .i64 now, .slice (some ⟨g0, o0, none⟩) (r.length + 1) cl] w fun e w' => DoneP s2 s rk rn E rt w e w' :=
  do_deed a c s now g0 o0 cl x r i hi f s2 rk rn E rt w he hs hc ht hl hcl h0 hidx hck hcf (fun W fv h => by rw [hded] at h; exact ⟨#[], h⟩)
    (fun W caps b ar S hW hd hb hS hk hr => by
      rw [hded] at hd
      have := caps_nil hd
      subst this
      exact HF W b ar S hW hb hS hk hr)
set_option maxRecDepth 100000 in
/-- a deed that reads -/
theorem do_reads (a : Option Addr) (c : Nat) (s : List Ent) (now : Int) (g0 o0 cl : Nat) (x key : ByteArray) (r : List ByteArray) (i : Nat) (hi : i < cmds.length) (f : Nat) (rk rn E : Int) (rt : ByteArray) (w : World) (he : Env w) (hs : SpaceAt w a s) (hc : chkSp s = 0) (ht : timeT now = true)
    (hl : ∀ i (h : i < (x :: key :: r).length), w.cell? ⟨g0, o0 + i, none⟩ = some (.string (x :: key :: r)[i])) (hcl : r.length + 2 ≤ cl) (h0 : wordsE (x :: key :: r) = 0) (hidx : idxC (smallT x) cmds 0 = i) (hck : checkP cmds[i].once cmds[i].again (key :: r) = 0)
    (hcf : ∀ (args : Array Value) (W : World), (callFunc f args).run Tryz.prog W = .ok (.enter f args) W) (hded : cmds[i].ded = .cap 151 f)
    (HF : ∀ W v a, Below w.heap.size w W → ItemIs W v (getR s now key) → TextsAt W a r → Calls Tryz.prog f #[v, .slice a r.length (cl - 1 - 1)] W fun e w' => e = .returned (.tuple #[.agg #[.int .i64 rk, .string rt, .int .i64 rn, .slice none 0 0], .int .i64 E]) ∧ Below W.heap.size W w') :
    Calls Tryz.prog 5 #[.slice a s.length c, .int .i64 now, .slice (some ⟨g0, o0, none⟩) (r.length + 2) cl] w fun e w' => DoneP s s rk rn E rt w e w' :=
  do_deed a c s now g0 o0 cl x (key :: r) i hi 151 s rk rn E rt w he hs hc ht hl (by simpa using hcl) h0 hidx hck (fun _ _ => rfl) (fun W fv h => by rw [hded] at h; obtain ⟨b, -, h1, -⟩ := h; exact ⟨_, h1⟩)
    (fun W caps b ar S hW hd hb hS hk hr => by
      rw [hded] at hd
      obtain ⟨bc, -, h1, h2⟩ := hd
      have := caps_nil h1
      subst this
      obtain ⟨g, o, rfl, hlr⟩ := texts_some hr
      exact (readsDeed_any f b bc s now g o (cl - 1) key r rk rn E rt W hk.at h2 (cells_more hlr hW) (by omega) hcf (fun W2 v a2 hW2 hv ha => HF W2 v a2 (hW.trans (hW2.mono hW.size)) hv ha)).mono fun e w' ⟨h3, h4⟩ => ⟨h3, hk.below h4, Kept.of_below h4 _⟩)
/-- the errno of a deed that changes -/
def chgE (s : List Ent) (now : Int) (key : ByteArray) (Y : Itm) (E : Int) : Int := if E = 0 then putE s now key Y (untilR s now key) else E
theorem chg_done {s : List Ent} {now : Int} {key : ByteArray} {Y : Itm} {rk rn E : Int} {rt : ByteArray} {w w' : World} {e : Ending} (h : DoneP (if E = 0 then keptS s now key Y (untilR s now key) else s) s (if E = 0 then rk else 0) (if E = 0 then rn else 0) (chgE s now key Y E) (if E = 0 then rt else ⟨#[]⟩) w e w') :
    DoneP (putS s now key Y (untilR s now key)) s rk rn (chgE s now key Y E) rt w e w' := by
  refine h.of rfl (fun h0 => ?_)
  have hE : E = 0 := by
    unfold chgE at h0
    by_cases hE : E = 0
    · exact hE
    · rw [if_neg hE] at h0; exact h0
  unfold chgE at h0
  rw [if_pos hE] at h0 ⊢
  rw [if_pos hE, if_pos hE, if_pos hE, keptS, if_pos h0]
  exact ⟨rfl, rfl, rfl, rfl⟩
theorem chg_value (E rk rn : Int) (rt : ByteArray) : (if E = 0 then (.agg #[.int .i64 rk, .string rt, .int .i64 rn, .slice none 0 0] : Value) else .agg #[.int .i64 0, .string ⟨#[]⟩, .int .i64 0, .slice none 0 0]) = .agg #[.int .i64 (if E = 0 then rk else 0), .string (if E = 0 then rt else ⟨#[]⟩), .int .i64 (if E = 0 then rn else 0), .slice none 0 0] := by
  by_cases h : E = 0
  · rw [if_pos h, if_pos h, if_pos h, if_pos h]
  · rw [if_neg h, if_neg h, if_neg h, if_neg h]
set_option maxRecDepth 100000 in
/-- a deed that changes -/
theorem do_changes (a : Option Addr) (c : Nat) (s : List Ent) (now : Int) (g0 o0 cl : Nat) (x key : ByteArray) (r : List ByteArray) (i : Nat) (hi : i < cmds.length) (f : Nat) (rk rn E : Int) (rt : ByteArray) (Y : Itm) (w : World) (he : Env w) (hs : SpaceAt w a s) (hc : chkSp s = 0) (ht : timeT now = true)
    (hl : ∀ i (h : i < (x :: key :: r).length), w.cell? ⟨g0, o0 + i, none⟩ = some (.string (x :: key :: r)[i])) (hcl : r.length + 2 ≤ cl) (h0 : wordsE (x :: key :: r) = 0) (hidx : idxC (smallT x) cmds 0 = i) (hck : checkP cmds[i].once cmds[i].again (key :: r) = 0)
    (hcf : ∀ (args : Array Value) (W : World), (callFunc f args).run Tryz.prog W = .ok (.enter f args) W) (hded : cmds[i].ded = .cap 162 f)
    (HF : ∀ W v a, Below w.heap.size w W → ItemIs W v (getR s now key) → TextsAt W a r → Calls Tryz.prog f #[v, .slice a r.length (cl - 1 - 1)] W fun e w' => (∃ u, e = .returned (.tuple #[u, .agg #[.int .i64 rk, .string rt, .int .i64 rn, .slice none 0 0], .int .i64 E]) ∧ ItFrom W.heap.size w' u Y) ∧ Below W.heap.size W w') :
    Calls Tryz.prog 5 #[.slice a s.length c, .int .i64 now, .slice (some ⟨g0, o0, none⟩) (r.length + 2) cl] w fun e w' => DoneP (putS s now key Y (untilR s now key)) s rk rn (chgE s now key Y E) rt w e w' :=
  (do_deed a c s now g0 o0 cl x (key :: r) i hi 162 (if E = 0 then keptS s now key Y (untilR s now key) else s) (if E = 0 then rk else 0) (if E = 0 then rn else 0) (chgE s now key Y E) (if E = 0 then rt else ⟨#[]⟩) w he hs hc ht hl (by simpa using hcl) h0 hidx hck (fun _ _ => rfl) (fun W fv h => by rw [hded] at h; obtain ⟨b, -, h1, -⟩ := h; exact ⟨_, h1⟩)
    (fun W caps b ar S hW hd hb hS hk hr => by
      rw [hded] at hd
      obtain ⟨bc, -, h1, h2⟩ := hd
      have := caps_nil h1
      subst this
      obtain ⟨g, o, rfl, hlr⟩ := texts_some hr
      have hgl : g < w.heap.size := World.block_lt_of_cell? _ _ (hlr 0 (by simp))
      have hhh := changesDeed_any S f b bc #[] s now g o (cl - 1) key r rk rn E rt Y W hS hk h2 (cells_more hlr hW) (by omega) (by omega) hcf (fun W2 v a2 hW2 hv ha => HF W2 v a2 (hW.trans (hW2.mono hW.size)) hv (ha.below hW2))
      rw [chg_value] at hhh
      exact hhh)).mono fun e w' h => chg_done h
set_option maxRecDepth 100000 in
/-- .. that holds which end -/
theorem do_changes2 (a : Option Addr) (c : Nat) (s : List Ent) (now : Int) (g0 o0 cl : Nat) (x key : ByteArray) (r : List ByteArray) (i : Nat) (hi : i < cmds.length) (f : Nat) (left : Bool) (rk rn E : Int) (rt : ByteArray) (Y : Itm) (w : World) (he : Env w) (hs : SpaceAt w a s) (hc : chkSp s = 0) (ht : timeT now = true)
    (hl : ∀ i (h : i < (x :: key :: r).length), w.cell? ⟨g0, o0 + i, none⟩ = some (.string (x :: key :: r)[i])) (hcl : r.length + 2 ≤ cl) (h0 : wordsE (x :: key :: r) = 0) (hidx : idxC (smallT x) cmds 0 = i) (hck : checkP cmds[i].once cmds[i].again (key :: r) = 0)
    (hcf : ∀ (args : Array Value) (W : World), (callFunc f args).run Tryz.prog W = .ok (.enter f args) W) (hded : cmds[i].ded = .two 162 f left)
    (HF : ∀ W v a b, Below w.heap.size w W → ItemIs W v (getR s now key) → TextsAt W a r → W.cell? ⟨b, 0, none⟩ = some (.bool left) → Calls Tryz.prog f #[v, .slice a r.length (cl - 1 - 1), .pointer (some ⟨b, 0, none⟩)] W fun e w' => (∃ u, e = .returned (.tuple #[u, .agg #[.int .i64 rk, .string rt, .int .i64 rn, .slice none 0 0], .int .i64 E]) ∧ ItFrom W.heap.size w' u Y) ∧ Below W.heap.size W w') :
    Calls Tryz.prog 5 #[.slice a s.length c, .int .i64 now, .slice (some ⟨g0, o0, none⟩) (r.length + 2) cl] w fun e w' => DoneP (putS s now key Y (untilR s now key)) s rk rn (chgE s now key Y E) rt w e w' :=
  (do_deed a c s now g0 o0 cl x (key :: r) i hi 162 (if E = 0 then keptS s now key Y (untilR s now key) else s) (if E = 0 then rk else 0) (if E = 0 then rn else 0) (chgE s now key Y E) (if E = 0 then rt else ⟨#[]⟩) w he hs hc ht hl (by simpa using hcl) h0 hidx hck (fun _ _ => rfl) (fun W fv h => by rw [hded] at h; obtain ⟨b, -, -, -, h1, -⟩ := h; exact ⟨_, h1⟩)
    (fun W caps b ar S hW hd hb hS hk hr => by
      rw [hded] at hd
      obtain ⟨bc, bl, -, -, h1, h2, h3⟩ := hd
      have := caps_nil h1
      subst this
      obtain ⟨g, o, rfl, hlr⟩ := texts_some hr
      have hgl : g < w.heap.size := World.block_lt_of_cell? _ _ (hlr 0 (by simp))
      have hhh := changesDeed_any S f b bc #[.pointer (some ⟨bl, 0, none⟩)] s now g o (cl - 1) key r rk rn E rt Y W hS hk h2 (cells_more hlr hW) (by omega) (by omega) hcf (fun W2 v a2 hW2 hv ha => HF W2 v a2 bl (hW.trans (hW2.mono hW.size)) hv (ha.below hW2) ((hW2.cell (World.block_lt_of_cell? _ _ h3)).trans h3))
      rw [chg_value] at hhh
      exact hhh)).mono fun e w' h => chg_done h
end Go.Proofs.YtmaancidkpfopaaGreatDoor

/- WALKS: an item with a reply beside it. -/
namespace Go.Proofs.YtmaancidkpfopaaGreatDoor
open Go.RowKit

set_option maxRecDepth 100000 in
set_option maxHeartbeats 4000000 in
theorem withNumber_any (k : Int) (t : ByteArray) (a1 a2 a3 : Option Addr) (l1 l2 l3 c1 c2 c3 : Nat) (n : Int) (E : Int) (w : World) :
    Calls Tryz.prog 76 #[.agg #[.int .i64 k, .string t, .slice a1 l1 c1, .slice a2 l2 c2, .slice a3 l3 c3], .int .i64 n, .int .i64 E] w fun e w' => e = .returned (.tuple #[.agg #[.int .i64 k, .string t, .slice a1 l1 c1, .slice a2 l2 c2, .slice a3 l3 c3], .agg #[.int .i64 3, .string ⟨#[]⟩, .int .i64 n, .slice none 0 0], .int .i64 E]) ∧ Below w.heap.size w w' := by
  have HN := hide numberReply_any
  unfold repV at HN
  obtain ⟨V1, hV1, AV1, B1⟩ : ∃ V', w.alloc (.cells #[.int .i64 k, .string t, .slice a1 l1 c1, .slice a2 l2 c2, .slice a3 l3 c3] 40) = V' ∧ Below w.heap.size w V' ∧ V'.heap[w.heap.size]? = some (.cells #[.int .i64 k, .string t, .slice a1 l1 c1, .slice a2 l2 c2, .slice a3 l3 c3] 40) := ⟨_, rfl, (Below.refl _ w).alloc (Nat.le_refl _) _, by show (w.heap.push _)[w.heap.size]? = _; simp⟩
  obtain ⟨V2, hV2, AV2, B2⟩ : ∃ V', V1.alloc (.cells #[.int .i64 0, .string ⟨#[]⟩, .slice none 0 0, .slice none 0 0, .slice none 0 0] 40) = V' ∧ Below V1.heap.size V1 V' ∧ V'.heap[V1.heap.size]? = some (.cells #[.int .i64 0, .string ⟨#[]⟩, .slice none 0 0, .slice none 0 0, .slice none 0 0] 40) := ⟨_, rfl, (Below.refl _ V1).alloc (Nat.le_refl _) _, by show (V1.heap.push _)[V1.heap.size]? = _; simp⟩
  obtain ⟨V3, hV3, AV3, B3⟩ : ∃ V', V2.alloc (.cells #[.int .i64 0, .string ⟨#[]⟩, .int .i64 0, .slice none 0 0] 27) = V' ∧ Below V2.heap.size V2 V' ∧ V'.heap[V2.heap.size]? = some (.cells #[.int .i64 0, .string ⟨#[]⟩, .int .i64 0, .slice none 0 0] 27) := ⟨_, rfl, (Below.refl _ V2).alloc (Nat.le_refl _) _, by show (V2.heap.push _)[V2.heap.size]? = _; simp⟩
  have h1 : w.heap.size < V1.heap.size := (Array.getElem?_eq_some_iff.1 B1).1
  have h2 : V1.heap.size < V2.heap.size := (Array.getElem?_eq_some_iff.1 B2).1
  have h3 : V2.heap.size < V3.heap.size := (Array.getElem?_eq_some_iff.1 B3).1
  have HLT : Hid (w.heap.size < V1.heap.size ∧ V1.heap.size < V2.heap.size ∧ V2.heap.size < V3.heap.size) := ⟨h1, h2, h3⟩
  have H3 : Hid (V3.drew.heap[V2.heap.size]? = some (.cells #[.int .i64 0, .string ⟨#[]⟩, .int .i64 0, .slice none 0 0] 27 (0, 0))) := B3
  have H2 : Hid (V3.drew.heap[V1.heap.size]? = some (.cells #[.int .i64 0, .string ⟨#[]⟩, .slice none 0 0, .slice none 0 0, .slice none 0 0] 40 (0, 0))) := (AV3.block _ h2).trans B2
  have H1 : Hid (V3.drew.heap[w.heap.size]? = some (.cells #[.int .i64 k, .string t, .slice a1 l1 c1, .slice a2 l2 c2, .slice a3 l3 c3] 40 (0, 0))) := (AV3.block _ (Nat.lt_trans h1 h2)).trans ((AV2.block _ h1).trans B1)
  have HB : Hid (Below w.heap.size w V3.drew) := (AV1.trans ((AV2.trans (AV3.mono AV2.size)).mono AV1.size)).drew
  have HSZ : Hid (V3.heap.size = V3.drew.heap.size) := rfl
  have hS : (fun w' : World => w'.cell? ⟨w.heap.size, 0, none⟩ = some (.int .i64 k) ∧ w'.cell? ⟨w.heap.size, 1, none⟩ = some (.string t) ∧ w'.cell? ⟨w.heap.size, 2, none⟩ = some (.slice a1 l1 c1) ∧ w'.cell? ⟨w.heap.size, 3, none⟩ = some (.slice a2 l2 c2) ∧ w'.cell? ⟨w.heap.size, 4, none⟩ = some (.slice a3 l3 c3)) V3.drew := by
    have q := H1.out
    exact ⟨by simp only [World.cell?, q]; rfl, by simp only [World.cell?, q]; rfl, by simp only [World.cell?, q]; rfl, by simp only [World.cell?, q]; rfl, by simp only [World.cell?, q]; rfl⟩
  have HS := hide hS
  clear B1 B2 B3 AV1 AV2 AV3 h1 h2 h3 hS
  go_enter Tryz.func76, Tryz.ntmps76
  go_wp2_with fail
  clear hV1 hV2 hV3
  refine wp_region_held_drew (S := (fun w' : World => w'.cell? ⟨w.heap.size, 0, none⟩ = some (.int .i64 k) ∧ w'.cell? ⟨w.heap.size, 1, none⟩ = some (.string t) ∧ w'.cell? ⟨w.heap.size, 2, none⟩ = some (.slice a1 l1 c1) ∧ w'.cell? ⟨w.heap.size, 3, none⟩ = some (.slice a2 l2 c2) ∧ w'.cell? ⟨w.heap.size, 4, none⟩ = some (.slice a3 l3 c3))) (by kernel_rfl) HS.out (fun hHeld => ?_)
  generalize V3.drew = W0 at *
  refine wpAnyH_take (i := 0) (v := .agg #[.int .i64 k, .string t, .slice a1 l1 c1, .slice a2 l2 c2, .slice a3 l3 c3]) rfl (by kernel_rfl) (by kernel_rfl) (by kernel_rfl) (fun _ _ _ h => h) (Or.inl ⟨by kernel_rfl, by intro w hSw; (try dsimp only at hSw); go_simp⟩) (by assumption) ?_
  refine wpAnyH_take (i := 1) (v := .int .i64 n) rfl (by kernel_rfl) (by kernel_rfl) (by kernel_rfl) (fun _ _ _ h => h) (Or.inl ⟨by kernel_rfl, by intro w hSw; (try dsimp only at hSw); go_simp⟩) (by assumption) ?_
  refine wpAnyH_take (i := 3) (v := .int .i64 E) rfl (by kernel_rfl) (by kernel_rfl) (by kernel_rfl) (fun _ _ _ h => h) (Or.inl ⟨by kernel_rfl, by intro w hSw; (try dsimp only at hSw); go_simp⟩) (by assumption) ?_
  refine wpAnyH_ready (rs := [2]) (by kernel_rfl) (by simp) ?_
  refine AllReadyH.cons rfl (fun K hK => ?_) (AllReadyH.nil)
  · go_simp
    refine (HN.out _ _).mono ?_
    rintro e w4 ⟨rfl, hb4⟩
    have hz := HLT.out
    have hzz : V3.heap.size = W0.heap.size := HSZ.out
    have kk := Kept.of_below hb4 (fun _ => False)
    have r1 := (hb4.block _ (by omega)).trans H1.out
    have r2 := (hb4.block _ (by omega)).trans H2.out
    have r3 := (hb4.block _ (by omega)).trans H3.out
    have HB4 : Hid (Below w.heap.size w w4) := HB.out.trans (hb4.mono HB.out.size)
    have hS4 : (fun w' : World => w'.cell? ⟨w.heap.size, 0, none⟩ = some (.int .i64 k) ∧ w'.cell? ⟨w.heap.size, 1, none⟩ = some (.string t) ∧ w'.cell? ⟨w.heap.size, 2, none⟩ = some (.slice a1 l1 c1) ∧ w'.cell? ⟨w.heap.size, 3, none⟩ = some (.slice a2 l2 c2) ∧ w'.cell? ⟨w.heap.size, 4, none⟩ = some (.slice a3 l3 c3)) w4 := ⟨by simp only [World.cell?, r1]; rfl, by simp only [World.cell?, r1]; rfl, by simp only [World.cell?, r1]; rfl, by simp only [World.cell?, r1]; rfl, by simp only [World.cell?, r1]; rfl⟩
    have HS4 := hide hS4
    refine hK.out _ _ hS4 (fun hHeld4 => ?_)
    clear hK K hS4 hHeld kk hb4
    have HP := hide (put5Q r2 (.int .i64 k) (.string t) (.slice a1 l1 c1) (.slice a2 l2 c2) (.slice a3 l3 c3))
    have HR3 := hide r3
    have HR1 := hide r1
    have HL4 := hide (And.intro (Array.getElem?_eq_some_iff.1 r1).1 (And.intro (Array.getElem?_eq_some_iff.1 r2).1 (Array.getElem?_eq_some_iff.1 r3).1))
    have m0 : w4.cell? ⟨V1.heap.size, 0, none⟩ = some (.int .i64 0) := by simp [World.cell?, r2]
    have n0 : w4.frozen? ⟨V1.heap.size, 0, none⟩ = false := by simp [World.frozen?, r2]
    have m1 : w4.cell? ⟨V1.heap.size, 1, none⟩ = some (.string ⟨#[]⟩) := by simp [World.cell?, r2]
    have n1 : w4.frozen? ⟨V1.heap.size, 1, none⟩ = false := by simp [World.frozen?, r2]
    have m2 : w4.cell? ⟨V1.heap.size, 2, none⟩ = some (.slice none 0 0) := by simp [World.cell?, r2]
    have n2 : w4.frozen? ⟨V1.heap.size, 2, none⟩ = false := by simp [World.frozen?, r2]
    have m3 : w4.cell? ⟨V1.heap.size, 3, none⟩ = some (.slice none 0 0) := by simp [World.cell?, r2]
    have n3 : w4.frozen? ⟨V1.heap.size, 3, none⟩ = false := by simp [World.frozen?, r2]
    have m4 : w4.cell? ⟨V1.heap.size, 4, none⟩ = some (.slice none 0 0) := by simp [World.cell?, r2]
    have n4 : w4.frozen? ⟨V1.heap.size, 4, none⟩ = false := by simp [World.frozen?, r2]
    clear r1 r2 r3 hz hzz
    refine wpAnyH_ready (rs := [4]) (by kernel_rfl) (by simp) ?_
    refine AllReadyH.cons rfl (fun K hK => ?_) (AllReadyH.nil)
    · go_simp
      obtain ⟨hH, hKp⟩ := HP.out
      generalize (((((w4.setCell ⟨V1.heap.size, 0, none⟩ (.int .i64 k)).setCell ⟨V1.heap.size, 1, none⟩ (.string t)).setCell ⟨V1.heap.size, 2, none⟩ (.slice a1 l1 c1)).setCell ⟨V1.heap.size, 3, none⟩ (.slice a2 l2 c2)).setCell ⟨V1.heap.size, 4, none⟩ (.slice a3 l3 c3)) = WA at *
      have hz := HLT.out
      have r1 := (hKp.block _ HL4.out.1 (by simp only [one]; omega)).trans HR1.out
      have r3 := (hKp.block _ HL4.out.2.2 (by simp only [one]; omega)).trans HR3.out
      have HB5 : Hid (Below w.heap.size w WA) := HB4.out.trans (hKp.below (B := w.heap.size) (by have := HB4.out.size; omega) (fun k hk => by simp only [one] at hk; omega))
      have HA5 := hide hH
      have hS5 : (fun w' : World => w'.cell? ⟨w.heap.size, 0, none⟩ = some (.int .i64 k) ∧ w'.cell? ⟨w.heap.size, 1, none⟩ = some (.string t) ∧ w'.cell? ⟨w.heap.size, 2, none⟩ = some (.slice a1 l1 c1) ∧ w'.cell? ⟨w.heap.size, 3, none⟩ = some (.slice a2 l2 c2) ∧ w'.cell? ⟨w.heap.size, 4, none⟩ = some (.slice a3 l3 c3)) WA := ⟨by simp only [World.cell?, r1]; rfl, by simp only [World.cell?, r1]; rfl, by simp only [World.cell?, r1]; rfl, by simp only [World.cell?, r1]; rfl, by simp only [World.cell?, r1]; rfl⟩
      refine hK.out _ _ hS5 (fun hHeld5 => ?_)
      clear hK K hS5 hHeld4 hKp m0 m1 m2 m3 m4 n0 n1 n2 n3 n4 hH
      have HQ := hide (put4R r3 (.int .i64 3) (.string ⟨#[]⟩) (.int .i64 n) (.slice none 0 0))
      have HR5 := hide r1
      have HL5 := hide (And.intro (Array.getElem?_eq_some_iff.1 r1).1 (Array.getElem?_eq_some_iff.1 HA5.out).1)
      have m0 : WA.cell? ⟨V2.heap.size, 0, none⟩ = some (.int .i64 0) := by simp [World.cell?, r3]
      have n0 : WA.frozen? ⟨V2.heap.size, 0, none⟩ = false := by simp [World.frozen?, r3]
      have m1 : WA.cell? ⟨V2.heap.size, 1, none⟩ = some (.string ⟨#[]⟩) := by simp [World.cell?, r3]
      have n1 : WA.frozen? ⟨V2.heap.size, 1, none⟩ = false := by simp [World.frozen?, r3]
      have m2 : WA.cell? ⟨V2.heap.size, 2, none⟩ = some (.int .i64 0) := by simp [World.cell?, r3]
      have n2 : WA.frozen? ⟨V2.heap.size, 2, none⟩ = false := by simp [World.frozen?, r3]
      have m3 : WA.cell? ⟨V2.heap.size, 3, none⟩ = some (.slice none 0 0) := by simp [World.cell?, r3]
      have n3 : WA.frozen? ⟨V2.heap.size, 3, none⟩ = false := by simp [World.frozen?, r3]
      clear r1 r3 hz
      refine wpAnyH_ready (rs := [5]) (by kernel_rfl) (by simp) ?_
      refine AllReadyH.cons rfl (fun K hK => ?_) (AllReadyH.nil)
      · go_simp
        obtain ⟨hH, hKp⟩ := HQ.out
        generalize ((((WA.setCell ⟨V2.heap.size, 0, none⟩ (.int .i64 3)).setCell ⟨V2.heap.size, 1, none⟩ (.string ⟨#[]⟩)).setCell ⟨V2.heap.size, 2, none⟩ (.int .i64 n)).setCell ⟨V2.heap.size, 3, none⟩ (.slice none 0 0)) = WB at *
        have hz := HLT.out
        have r1 := (hKp.block _ HL5.out.1 (by simp only [one]; omega)).trans HR5.out
        have r2 := (hKp.block _ HL5.out.2 (by simp only [one]; omega)).trans HA5.out
        have HB6 : Hid (Below w.heap.size w WB) := HB5.out.trans (hKp.below (B := w.heap.size) (by have := HB5.out.size; omega) (fun k hk => by simp only [one] at hk; omega))
        have hS6 : (fun w' : World => w'.cell? ⟨w.heap.size, 0, none⟩ = some (.int .i64 k) ∧ w'.cell? ⟨w.heap.size, 1, none⟩ = some (.string t) ∧ w'.cell? ⟨w.heap.size, 2, none⟩ = some (.slice a1 l1 c1) ∧ w'.cell? ⟨w.heap.size, 3, none⟩ = some (.slice a2 l2 c2) ∧ w'.cell? ⟨w.heap.size, 4, none⟩ = some (.slice a3 l3 c3)) WB := ⟨by simp only [World.cell?, r1]; rfl, by simp only [World.cell?, r1]; rfl, by simp only [World.cell?, r1]; rfl, by simp only [World.cell?, r1]; rfl, by simp only [World.cell?, r1]; rfl⟩
        refine hK.out _ _ hS6 (fun hHeld6 => ?_)
        clear hK K hS6 hHeld5 hKp m0 m1 m2 m3 n0 n1 n2 n3 r1 hz
        have HH := hide hH
        have H22 := hide r2
        clear hH r2
        refine wpAnyH_take (i := 6) (v := .int .i64 E) rfl (by kernel_rfl) (by kernel_rfl) (by kernel_rfl) (fun _ _ _ h => h) (Or.inl ⟨by kernel_rfl, by intro w hSw; (try dsimp only at hSw); go_simp⟩) (by assumption) ?_
        refine wpAnyH_done (by kernel_rfl) ?_ _
        go_wp2_with fail
        have hH := HH.out
        have r2 := H22.out
        refine bodyPost_ret (v := .tuple #[.agg #[.int .i64 k, .string t, .slice a1 l1 c1, .slice a2 l2 c2, .slice a3 l3 c3], .agg #[.int .i64 3, .string ⟨#[]⟩, .int .i64 n, .slice none 0 0], .int .i64 E]) (by simp [results, Tryz.results76, go_sem, World.cell?, hH, r2]) rfl ⟨rfl, HB6.out⟩
set_option maxRecDepth 100000 in
set_option maxHeartbeats 4000000 in
theorem withBytes_any (k : Int) (t : ByteArray) (a1 a2 a3 : Option Addr) (l1 l2 l3 c1 c2 c3 : Nat) (s : ByteArray) (E : Int) (w : World) :
    Calls Tryz.prog 168 #[.agg #[.int .i64 k, .string t, .slice a1 l1 c1, .slice a2 l2 c2, .slice a3 l3 c3], .string s, .int .i64 E] w fun e w' => e = .returned (.tuple #[.agg #[.int .i64 k, .string t, .slice a1 l1 c1, .slice a2 l2 c2, .slice a3 l3 c3], .agg #[.int .i64 4, .string s, .int .i64 0, .slice none 0 0], .int .i64 E]) ∧ Below w.heap.size w w' := by
  have HN := hide bytesReply_any
  unfold repV at HN
  obtain ⟨V1, hV1, AV1, B1⟩ : ∃ V', w.alloc (.cells #[.int .i64 k, .string t, .slice a1 l1 c1, .slice a2 l2 c2, .slice a3 l3 c3] 40) = V' ∧ Below w.heap.size w V' ∧ V'.heap[w.heap.size]? = some (.cells #[.int .i64 k, .string t, .slice a1 l1 c1, .slice a2 l2 c2, .slice a3 l3 c3] 40) := ⟨_, rfl, (Below.refl _ w).alloc (Nat.le_refl _) _, by show (w.heap.push _)[w.heap.size]? = _; simp⟩
  obtain ⟨V2, hV2, AV2, B2⟩ : ∃ V', V1.alloc (.cells #[.int .i64 0, .string ⟨#[]⟩, .slice none 0 0, .slice none 0 0, .slice none 0 0] 40) = V' ∧ Below V1.heap.size V1 V' ∧ V'.heap[V1.heap.size]? = some (.cells #[.int .i64 0, .string ⟨#[]⟩, .slice none 0 0, .slice none 0 0, .slice none 0 0] 40) := ⟨_, rfl, (Below.refl _ V1).alloc (Nat.le_refl _) _, by show (V1.heap.push _)[V1.heap.size]? = _; simp⟩
  obtain ⟨V3, hV3, AV3, B3⟩ : ∃ V', V2.alloc (.cells #[.int .i64 0, .string ⟨#[]⟩, .int .i64 0, .slice none 0 0] 27) = V' ∧ Below V2.heap.size V2 V' ∧ V'.heap[V2.heap.size]? = some (.cells #[.int .i64 0, .string ⟨#[]⟩, .int .i64 0, .slice none 0 0] 27) := ⟨_, rfl, (Below.refl _ V2).alloc (Nat.le_refl _) _, by show (V2.heap.push _)[V2.heap.size]? = _; simp⟩
  have h1 : w.heap.size < V1.heap.size := (Array.getElem?_eq_some_iff.1 B1).1
  have h2 : V1.heap.size < V2.heap.size := (Array.getElem?_eq_some_iff.1 B2).1
  have h3 : V2.heap.size < V3.heap.size := (Array.getElem?_eq_some_iff.1 B3).1
  have HLT : Hid (w.heap.size < V1.heap.size ∧ V1.heap.size < V2.heap.size ∧ V2.heap.size < V3.heap.size) := ⟨h1, h2, h3⟩
  have H3 : Hid (V3.drew.heap[V2.heap.size]? = some (.cells #[.int .i64 0, .string ⟨#[]⟩, .int .i64 0, .slice none 0 0] 27 (0, 0))) := B3
  have H2 : Hid (V3.drew.heap[V1.heap.size]? = some (.cells #[.int .i64 0, .string ⟨#[]⟩, .slice none 0 0, .slice none 0 0, .slice none 0 0] 40 (0, 0))) := (AV3.block _ h2).trans B2
  have H1 : Hid (V3.drew.heap[w.heap.size]? = some (.cells #[.int .i64 k, .string t, .slice a1 l1 c1, .slice a2 l2 c2, .slice a3 l3 c3] 40 (0, 0))) := (AV3.block _ (Nat.lt_trans h1 h2)).trans ((AV2.block _ h1).trans B1)
  have HB : Hid (Below w.heap.size w V3.drew) := (AV1.trans ((AV2.trans (AV3.mono AV2.size)).mono AV1.size)).drew
  have HSZ : Hid (V3.heap.size = V3.drew.heap.size) := rfl
  have hS : (fun w' : World => w'.cell? ⟨w.heap.size, 0, none⟩ = some (.int .i64 k) ∧ w'.cell? ⟨w.heap.size, 1, none⟩ = some (.string t) ∧ w'.cell? ⟨w.heap.size, 2, none⟩ = some (.slice a1 l1 c1) ∧ w'.cell? ⟨w.heap.size, 3, none⟩ = some (.slice a2 l2 c2) ∧ w'.cell? ⟨w.heap.size, 4, none⟩ = some (.slice a3 l3 c3)) V3.drew := by
    have q := H1.out
    exact ⟨by simp only [World.cell?, q]; rfl, by simp only [World.cell?, q]; rfl, by simp only [World.cell?, q]; rfl, by simp only [World.cell?, q]; rfl, by simp only [World.cell?, q]; rfl⟩
  have HS := hide hS
  clear B1 B2 B3 AV1 AV2 AV3 h1 h2 h3 hS
  go_enter Tryz.func168, Tryz.ntmps168
  go_wp2_with fail
  clear hV1 hV2 hV3
  refine wp_region_held_drew (S := (fun w' : World => w'.cell? ⟨w.heap.size, 0, none⟩ = some (.int .i64 k) ∧ w'.cell? ⟨w.heap.size, 1, none⟩ = some (.string t) ∧ w'.cell? ⟨w.heap.size, 2, none⟩ = some (.slice a1 l1 c1) ∧ w'.cell? ⟨w.heap.size, 3, none⟩ = some (.slice a2 l2 c2) ∧ w'.cell? ⟨w.heap.size, 4, none⟩ = some (.slice a3 l3 c3))) (by kernel_rfl) HS.out (fun hHeld => ?_)
  generalize V3.drew = W0 at *
  refine wpAnyH_take (i := 0) (v := .agg #[.int .i64 k, .string t, .slice a1 l1 c1, .slice a2 l2 c2, .slice a3 l3 c3]) rfl (by kernel_rfl) (by kernel_rfl) (by kernel_rfl) (fun _ _ _ h => h) (Or.inl ⟨by kernel_rfl, by intro w hSw; (try dsimp only at hSw); go_simp⟩) (by assumption) ?_
  refine wpAnyH_take (i := 1) (v := .string s) rfl (by kernel_rfl) (by kernel_rfl) (by kernel_rfl) (fun _ _ _ h => h) (Or.inl ⟨by kernel_rfl, by intro w hSw; (try dsimp only at hSw); go_simp⟩) (by assumption) ?_
  refine wpAnyH_take (i := 3) (v := .int .i64 E) rfl (by kernel_rfl) (by kernel_rfl) (by kernel_rfl) (fun _ _ _ h => h) (Or.inl ⟨by kernel_rfl, by intro w hSw; (try dsimp only at hSw); go_simp⟩) (by assumption) ?_
  refine wpAnyH_ready (rs := [2]) (by kernel_rfl) (by simp) ?_
  refine AllReadyH.cons rfl (fun K hK => ?_) (AllReadyH.nil)
  · go_simp
    refine (HN.out _ _).mono ?_
    rintro e w4 ⟨rfl, hb4⟩
    have hz := HLT.out
    have hzz : V3.heap.size = W0.heap.size := HSZ.out
    have kk := Kept.of_below hb4 (fun _ => False)
    have r1 := (hb4.block _ (by omega)).trans H1.out
    have r2 := (hb4.block _ (by omega)).trans H2.out
    have r3 := (hb4.block _ (by omega)).trans H3.out
    have HB4 : Hid (Below w.heap.size w w4) := HB.out.trans (hb4.mono HB.out.size)
    have hS4 : (fun w' : World => w'.cell? ⟨w.heap.size, 0, none⟩ = some (.int .i64 k) ∧ w'.cell? ⟨w.heap.size, 1, none⟩ = some (.string t) ∧ w'.cell? ⟨w.heap.size, 2, none⟩ = some (.slice a1 l1 c1) ∧ w'.cell? ⟨w.heap.size, 3, none⟩ = some (.slice a2 l2 c2) ∧ w'.cell? ⟨w.heap.size, 4, none⟩ = some (.slice a3 l3 c3)) w4 := ⟨by simp only [World.cell?, r1]; rfl, by simp only [World.cell?, r1]; rfl, by simp only [World.cell?, r1]; rfl, by simp only [World.cell?, r1]; rfl, by simp only [World.cell?, r1]; rfl⟩
    have HS4 := hide hS4
    refine hK.out _ _ hS4 (fun hHeld4 => ?_)
    clear hK K hS4 hHeld kk hb4
    have HP := hide (put5Q r2 (.int .i64 k) (.string t) (.slice a1 l1 c1) (.slice a2 l2 c2) (.slice a3 l3 c3))
    have HR3 := hide r3
    have HR1 := hide r1
    have HL4 := hide (And.intro (Array.getElem?_eq_some_iff.1 r1).1 (And.intro (Array.getElem?_eq_some_iff.1 r2).1 (Array.getElem?_eq_some_iff.1 r3).1))
    have m0 : w4.cell? ⟨V1.heap.size, 0, none⟩ = some (.int .i64 0) := by simp [World.cell?, r2]
    have n0 : w4.frozen? ⟨V1.heap.size, 0, none⟩ = false := by simp [World.frozen?, r2]
    have m1 : w4.cell? ⟨V1.heap.size, 1, none⟩ = some (.string ⟨#[]⟩) := by simp [World.cell?, r2]
    have n1 : w4.frozen? ⟨V1.heap.size, 1, none⟩ = false := by simp [World.frozen?, r2]
    have m2 : w4.cell? ⟨V1.heap.size, 2, none⟩ = some (.slice none 0 0) := by simp [World.cell?, r2]
    have n2 : w4.frozen? ⟨V1.heap.size, 2, none⟩ = false := by simp [World.frozen?, r2]
    have m3 : w4.cell? ⟨V1.heap.size, 3, none⟩ = some (.slice none 0 0) := by simp [World.cell?, r2]
    have n3 : w4.frozen? ⟨V1.heap.size, 3, none⟩ = false := by simp [World.frozen?, r2]
    have m4 : w4.cell? ⟨V1.heap.size, 4, none⟩ = some (.slice none 0 0) := by simp [World.cell?, r2]
    have n4 : w4.frozen? ⟨V1.heap.size, 4, none⟩ = false := by simp [World.frozen?, r2]
    clear r1 r2 r3 hz hzz
    refine wpAnyH_ready (rs := [4]) (by kernel_rfl) (by simp) ?_
    refine AllReadyH.cons rfl (fun K hK => ?_) (AllReadyH.nil)
    · go_simp
      obtain ⟨hH, hKp⟩ := HP.out
      generalize (((((w4.setCell ⟨V1.heap.size, 0, none⟩ (.int .i64 k)).setCell ⟨V1.heap.size, 1, none⟩ (.string t)).setCell ⟨V1.heap.size, 2, none⟩ (.slice a1 l1 c1)).setCell ⟨V1.heap.size, 3, none⟩ (.slice a2 l2 c2)).setCell ⟨V1.heap.size, 4, none⟩ (.slice a3 l3 c3)) = WA at *
      have hz := HLT.out
      have r1 := (hKp.block _ HL4.out.1 (by simp only [one]; omega)).trans HR1.out
      have r3 := (hKp.block _ HL4.out.2.2 (by simp only [one]; omega)).trans HR3.out
      have HB5 : Hid (Below w.heap.size w WA) := HB4.out.trans (hKp.below (B := w.heap.size) (by have := HB4.out.size; omega) (fun k hk => by simp only [one] at hk; omega))
      have HA5 := hide hH
      have hS5 : (fun w' : World => w'.cell? ⟨w.heap.size, 0, none⟩ = some (.int .i64 k) ∧ w'.cell? ⟨w.heap.size, 1, none⟩ = some (.string t) ∧ w'.cell? ⟨w.heap.size, 2, none⟩ = some (.slice a1 l1 c1) ∧ w'.cell? ⟨w.heap.size, 3, none⟩ = some (.slice a2 l2 c2) ∧ w'.cell? ⟨w.heap.size, 4, none⟩ = some (.slice a3 l3 c3)) WA := ⟨by simp only [World.cell?, r1]; rfl, by simp only [World.cell?, r1]; rfl, by simp only [World.cell?, r1]; rfl, by simp only [World.cell?, r1]; rfl, by simp only [World.cell?, r1]; rfl⟩
      refine hK.out _ _ hS5 (fun hHeld5 => ?_)
      clear hK K hS5 hHeld4 hKp m0 m1 m2 m3 m4 n0 n1 n2 n3 n4 hH
      have HQ := hide (put4R r3 (.int .i64 4) (.string s) (.int .i64 0) (.slice none 0 0))
      have HR5 := hide r1
      have HL5 := hide (And.intro (Array.getElem?_eq_some_iff.1 r1).1 (Array.getElem?_eq_some_iff.1 HA5.out).1)
      have m0 : WA.cell? ⟨V2.heap.size, 0, none⟩ = some (.int .i64 0) := by simp [World.cell?, r3]
      have n0 : WA.frozen? ⟨V2.heap.size, 0, none⟩ = false := by simp [World.frozen?, r3]
      have m1 : WA.cell? ⟨V2.heap.size, 1, none⟩ = some (.string ⟨#[]⟩) := by simp [World.cell?, r3]
      have n1 : WA.frozen? ⟨V2.heap.size, 1, none⟩ = false := by simp [World.frozen?, r3]
      have m2 : WA.cell? ⟨V2.heap.size, 2, none⟩ = some (.int .i64 0) := by simp [World.cell?, r3]
      have n2 : WA.frozen? ⟨V2.heap.size, 2, none⟩ = false := by simp [World.frozen?, r3]
      have m3 : WA.cell? ⟨V2.heap.size, 3, none⟩ = some (.slice none 0 0) := by simp [World.cell?, r3]
      have n3 : WA.frozen? ⟨V2.heap.size, 3, none⟩ = false := by simp [World.frozen?, r3]
      clear r1 r3 hz
      refine wpAnyH_ready (rs := [5]) (by kernel_rfl) (by simp) ?_
      refine AllReadyH.cons rfl (fun K hK => ?_) (AllReadyH.nil)
      · go_simp
        obtain ⟨hH, hKp⟩ := HQ.out
        generalize ((((WA.setCell ⟨V2.heap.size, 0, none⟩ (.int .i64 4)).setCell ⟨V2.heap.size, 1, none⟩ (.string s)).setCell ⟨V2.heap.size, 2, none⟩ (.int .i64 0)).setCell ⟨V2.heap.size, 3, none⟩ (.slice none 0 0)) = WB at *
        have hz := HLT.out
        have r1 := (hKp.block _ HL5.out.1 (by simp only [one]; omega)).trans HR5.out
        have r2 := (hKp.block _ HL5.out.2 (by simp only [one]; omega)).trans HA5.out
        have HB6 : Hid (Below w.heap.size w WB) := HB5.out.trans (hKp.below (B := w.heap.size) (by have := HB5.out.size; omega) (fun k hk => by simp only [one] at hk; omega))
        have hS6 : (fun w' : World => w'.cell? ⟨w.heap.size, 0, none⟩ = some (.int .i64 k) ∧ w'.cell? ⟨w.heap.size, 1, none⟩ = some (.string t) ∧ w'.cell? ⟨w.heap.size, 2, none⟩ = some (.slice a1 l1 c1) ∧ w'.cell? ⟨w.heap.size, 3, none⟩ = some (.slice a2 l2 c2) ∧ w'.cell? ⟨w.heap.size, 4, none⟩ = some (.slice a3 l3 c3)) WB := ⟨by simp only [World.cell?, r1]; rfl, by simp only [World.cell?, r1]; rfl, by simp only [World.cell?, r1]; rfl, by simp only [World.cell?, r1]; rfl, by simp only [World.cell?, r1]; rfl⟩
        refine hK.out _ _ hS6 (fun hHeld6 => ?_)
        clear hK K hS6 hHeld5 hKp m0 m1 m2 m3 n0 n1 n2 n3 r1 hz
        have HH := hide hH
        have H22 := hide r2
        clear hH r2
        refine wpAnyH_take (i := 6) (v := .int .i64 E) rfl (by kernel_rfl) (by kernel_rfl) (by kernel_rfl) (fun _ _ _ h => h) (Or.inl ⟨by kernel_rfl, by intro w hSw; (try dsimp only at hSw); go_simp⟩) (by assumption) ?_
        refine wpAnyH_done (by kernel_rfl) ?_ _
        go_wp2_with fail
        have hH := HH.out
        have r2 := H22.out
        refine bodyPost_ret (v := .tuple #[.agg #[.int .i64 k, .string t, .slice a1 l1 c1, .slice a2 l2 c2, .slice a3 l3 c3], .agg #[.int .i64 4, .string s, .int .i64 0, .slice none 0 0], .int .i64 E]) (by simp [results, Tryz.results168, go_sem, World.cell?, hH, r2]) rfl ⟨rfl, HB6.out⟩
end Go.Proofs.YtmaancidkpfopaaGreatDoor

/- Nothing, as it lies in memory (its own text: a seat without the reference has no ISame2). -/
namespace Go.Proofs.YtmaancidkpfopaaGreatDoor
open Go.RowKit

theorem zero_is (w : World) : ItemIs w (.agg #[.int .i64 0, .string ⟨#[]⟩, .slice none 0 0, .slice none 0 0, .slice none 0 0]) Itm.none :=
  ⟨⟨none, 0, none, 0, none, 0, rfl, .inl rfl, .inl rfl, .inl rfl⟩, (show (0 : Nat) ≤ maxLen by simp), by simp [Itm.none], by simp [Itm.none], by simp [Itm.none], by simp [Itm.none], by simp [Itm.none], by simp [Itm.none]⟩
end Go.Proofs.YtmaancidkpfopaaGreatDoor

/- Memory of its own: from a block on, and open to be written. -/
namespace Go.Proofs.YtmaancidkpfopaaGreatDoor
open Go.RowKit

theorem five_apart (w : World) (b : Nat) (v0 v1 v2 v3 v4 : Value) (g o : Nat) (hg : g ≠ b) : (((((w.setCell ⟨b, 0, none⟩ v0).setCell ⟨b, 1, none⟩ v1).setCell ⟨b, 2, none⟩ v2).setCell ⟨b, 3, none⟩ v3).setCell ⟨b, 4, none⟩ v4).cell? ⟨g, o, none⟩ = w.cell? ⟨g, o, none⟩ := by
  rw [World.cell?_setCell_other _ _ _ _ (by intro e; injection e with e1; omega), World.cell?_setCell_other _ _ _ _ (by intro e; injection e with e1; omega), World.cell?_setCell_other _ _ _ _ (by intro e; injection e with e1; omega), World.cell?_setCell_other _ _ _ _ (by intro e; injection e with e1; omega), World.cell?_setCell_other _ _ _ _ (by intro e; injection e with e1; omega)]
/-- an item whose memory lies from block B on -/
def ItemFrom (B : Nat) (w : World) (v : Value) (x : Itm) : Prop := ∀ w', (∀ g o u, B ≤ g → w.cell? ⟨g, o, none⟩ = some u → w'.cell? ⟨g, o, none⟩ = some u) → ItemIs w' v x
theorem ItemFrom.is {B : Nat} {w : World} {v : Value} {x : Itm} (h : ItemFrom B w v x) : ItemIs w v x := h w (fun _ _ _ _ hu => hu)
theorem ItemFrom.moved {B : Nat} {w w' : World} {v : Value} {x : Itm} (h : ItemFrom B w v x) (hw : ∀ g o u, B ≤ g → w.cell? ⟨g, o, none⟩ = some u → w'.cell? ⟨g, o, none⟩ = some u) : ItemFrom B w' v x := fun w'' h2 => h w'' (fun g o u hg hu => h2 g o u hg (hw g o u hg hu))
theorem ItemFrom.low {B C : Nat} {w : World} {v : Value} {x : Itm} (h : ItemFrom B w v x) (hC : C ≤ B) : ItemFrom C w v x := fun w' hw => h w' (fun g o u hg hu => hw g o u (Nat.le_trans hC hg) hu)
theorem wrap_small (a : Int) (h1 : -9223372036854775808 ≤ a) (h2 : a ≤ 9223372036854775807) : IntKind.i64.wrap a = a := by
  simp only [IntKind.wrap, IntKind.bits, IntKind.signed]
  first | omega | (simp; omega)
/-- .. where what may not be written to may change, too: so none of it lies there -/
def ItemOwn (B : Nat) (w : World) (v : Value) (x : Itm) : Prop := ∀ w', (∀ g o u, B ≤ g → w.cell? ⟨g, o, none⟩ = some u → w.frozen? ⟨g, o, none⟩ = false → w'.cell? ⟨g, o, none⟩ = some u) → ItemIs w' v x
theorem ItemOwn.from {B : Nat} {w : World} {v : Value} {x : Itm} (h : ItemOwn B w v x) : ItemFrom B w v x := fun w' hw => h w' (fun g o u hg hu _ => hw g o u hg hu)
theorem ItemOwn.is {B : Nat} {w : World} {v : Value} {x : Itm} (h : ItemOwn B w v x) : ItemIs w v x := h.from.is
theorem ItemOwn.low {B C : Nat} {w : World} {v : Value} {x : Itm} (h : ItemOwn B w v x) (hC : C ≤ B) : ItemOwn C w v x := fun w' hw => h w' (fun g o u hg hu hf => hw g o u (Nat.le_trans hC hg) hu hf)
/-- texts, likewise -/
def TextsOwn (B : Nat) (w : World) (a : Option Addr) (l : List ByteArray) : Prop := ∀ w', (∀ g o u, B ≤ g → w.cell? ⟨g, o, none⟩ = some u → w.frozen? ⟨g, o, none⟩ = false → w'.cell? ⟨g, o, none⟩ = some u) → TextsAt w' a l
theorem TextsOwn.at {B : Nat} {w : World} {a : Option Addr} {l : List ByteArray} (h : TextsOwn B w a l) : TextsAt w a l := h w (fun _ _ _ _ hu _ => hu)
theorem ItemOwn.texts {B : Nat} {w : World} {k : Int} {t : ByteArray} {a1 a2 a3 : Option Addr} {n1 n2 n3 c1 c2 c3 : Nat} {x : Itm} (h : ItemOwn B w (.agg #[.int .i64 k, .string t, .slice a1 n1 c1, .slice a2 n2 c2, .slice a3 n3 c3]) x) : TextsOwn B w a1 x.l := fun w' hw => by
  obtain ⟨⟨b1, d1, b2, d2, b3, d3, e, h1, -, -⟩, -⟩ := h w' hw
  simp only [Value.agg.injEq, Array.mk.injEq, List.cons.injEq, Value.slice.injEq] at e
  rw [e.2.2.1.1]
  exact h1
end Go.Proofs.YtmaancidkpfopaaGreatDoor

