/- Part 10 of what the proof leans on: EDed6. -/
import Derived.Test.YtmaancidkpfopaaGreatDoorPart1
import Derived.Test.YtmaancidkpfopaaGreatDoorPart2
import Derived.Test.YtmaancidkpfopaaGreatDoorPart3
import Derived.Test.YtmaancidkpfopaaGreatDoorPart4
import Derived.Test.YtmaancidkpfopaaGreatDoorPart5
import Derived.Test.YtmaancidkpfopaaGreatDoorPart6
import Derived.Test.YtmaancidkpfopaaGreatDoorPart7
import Derived.Test.YtmaancidkpfopaaGreatDoorPart8
import Derived.Test.YtmaancidkpfopaaGreatDoorPart9
import Derived.Deep.RegionHeld
import Derived.Handy
/- WALK: a deed that changes an item. -/
namespace Go.Proofs.YtmaancidkpfopaaGreatDoor
open Go.RowKit

/-- an item whose memory lies from a block on -/
def ItFrom (B : Nat) (w : World) (v : Value) (x : Itm) : Prop := ∀ w', (∀ k, B ≤ k → k < w.heap.size → w'.heap[k]? = w.heap[k]?) → ItemIs w' v x
theorem ItFrom.at {B : Nat} {w : World} {v : Value} {x : Itm} (h : ItFrom B w v x) : ItemIs w v x := h w (fun _ _ _ => rfl)
theorem S4_kept {w w' : World} {T : Nat → Prop} {g0 o0 bA bB : Nat} {x rt : ByteArray} {rk rn : Int} {Y : Itm} {b1 b2 b3 : Option Addr} {e1 e2 e3 : Nat} (h : Kept T w w') (hg1 : g0 < w.heap.size) (hg2 : ¬ T g0) (hb1 : bB < w.heap.size) (hb2 : ¬ T bB) (ha1 : bA < w.heap.size) (ha2 : ¬ T bA) (h0 : (fun w' : World => w'.cell? ⟨g0, o0, none⟩ = some (.string x) ∧ w'.cell? ⟨bB, 0, none⟩ = some (.int .i64 rk) ∧ w'.cell? ⟨bB, 1, none⟩ = some (.string rt) ∧ w'.cell? ⟨bB, 2, none⟩ = some (.int .i64 rn) ∧ w'.cell? ⟨bB, 3, none⟩ = some (.slice none 0 0) ∧ w'.cell? ⟨bA, 0, none⟩ = some (.int .i64 Y.k) ∧ w'.cell? ⟨bA, 1, none⟩ = some (.string Y.t) ∧ w'.cell? ⟨bA, 2, none⟩ = some (.slice b1 Y.l.length e1) ∧ w'.cell? ⟨bA, 3, none⟩ = some (.slice b2 Y.p.length e2) ∧ w'.cell? ⟨bA, 4, none⟩ = some (.slice b3 Y.s.length e3)) w) : (fun w' : World => w'.cell? ⟨g0, o0, none⟩ = some (.string x) ∧ w'.cell? ⟨bB, 0, none⟩ = some (.int .i64 rk) ∧ w'.cell? ⟨bB, 1, none⟩ = some (.string rt) ∧ w'.cell? ⟨bB, 2, none⟩ = some (.int .i64 rn) ∧ w'.cell? ⟨bB, 3, none⟩ = some (.slice none 0 0) ∧ w'.cell? ⟨bA, 0, none⟩ = some (.int .i64 Y.k) ∧ w'.cell? ⟨bA, 1, none⟩ = some (.string Y.t) ∧ w'.cell? ⟨bA, 2, none⟩ = some (.slice b1 Y.l.length e1) ∧ w'.cell? ⟨bA, 3, none⟩ = some (.slice b2 Y.p.length e2) ∧ w'.cell? ⟨bA, 4, none⟩ = some (.slice b3 Y.s.length e3)) w' :=
  ⟨(h.cell (p := ⟨g0, o0, none⟩) hg1 hg2).trans h0.1, (h.cell (p := ⟨bB, 0, none⟩) hb1 hb2).trans h0.2.1, (h.cell (p := ⟨bB, 1, none⟩) hb1 hb2).trans h0.2.2.1, (h.cell (p := ⟨bB, 2, none⟩) hb1 hb2).trans h0.2.2.2.1, (h.cell (p := ⟨bB, 3, none⟩) hb1 hb2).trans h0.2.2.2.2.1, (h.cell (p := ⟨bA, 0, none⟩) ha1 ha2).trans h0.2.2.2.2.2.1, (h.cell (p := ⟨bA, 1, none⟩) ha1 ha2).trans h0.2.2.2.2.2.2.1, (h.cell (p := ⟨bA, 2, none⟩) ha1 ha2).trans h0.2.2.2.2.2.2.2.1, (h.cell (p := ⟨bA, 3, none⟩) ha1 ha2).trans h0.2.2.2.2.2.2.2.2.1, (h.cell (p := ⟨bA, 4, none⟩) ha1 ha2).trans h0.2.2.2.2.2.2.2.2.2⟩
set_option maxRecDepth 100000 in
set_option maxHeartbeats 64000000 in
theorem changesDeed_any (S : Nat → Prop) (f b bc : Nat) (fc : Array Value) (s : List Ent) (now : Int) (g0 o0 cl : Nat) (x : ByteArray) (r : List ByteArray) (rk rn E : Int) (rt : ByteArray) (Y : Itm) (w : World) (hS : ∀ k, S k → k < w.heap.size ∧ k ≠ b) (h : KeepS S w b s now) (hf : w.cell? ⟨bc, 0, none⟩ = some (.func (.func f) #[] fc))
    (hl : ∀ i (h : i < (x :: r).length), w.cell? ⟨g0, o0 + i, none⟩ = some (.string (x :: r)[i])) (hcl : r.length + 1 ≤ cl) (hgb : g0 ≠ b)
    (hcf : ∀ (args : Array Value) (W : World), (callFunc f args).run Tryz.prog W = .ok (.enter f args) W)
    (HF : ∀ W v a, Below w.heap.size w W → ItemIs W v (getR s now x) → TextsAt w a r → Calls Tryz.prog f (#[v, .slice a r.length (cl - 1)] ++ fc) W fun e w' => (∃ u, e = .returned (.tuple #[u, .agg #[.int .i64 rk, .string rt, .int .i64 rn, .slice none 0 0], .int .i64 E]) ∧ ItFrom W.heap.size w' u Y) ∧ Below W.heap.size W w') :
    Calls Tryz.prog 162 #[.pointer (some ⟨b, 0, none⟩), .slice (some ⟨g0, o0, none⟩) (r.length + 1) cl, .pointer (some ⟨bc, 0, none⟩)] w fun e w' => e = .returned (.tuple #[if E = 0 then .agg #[.int .i64 rk, .string rt, .int .i64 rn, .slice none 0 0] else .agg #[.int .i64 0, .string ⟨#[]⟩, .int .i64 0, .slice none 0 0], .int .i64 (if E = 0 then putE s now x Y (untilR s now x) else E)]) ∧ KeepS S w' b (if E = 0 then keptS s now x Y (untilR s now x) else s) now ∧ Kept (one b) w w' := by
  obtain ⟨ar, har⟩ : ∃ ar, (if cl = 1 then some (⟨g0, o0, none⟩ : Addr) else some ⟨g0, o0 + 1, none⟩) = ar := ⟨_, rfl⟩
  have hTR : TextsAt w ar r := har ▸ rest_at hl hcl
  have hx := hl 0 (by simp)
  simp only [List.getElem_cons_zero, Nat.add_zero] at hx
  have hk := h.at
  have HBL := hide hk.lt
  have HI := hide (fun W (hW : Below w.heap.size w W) => keepItem_any b s now x W (hk.below hW))
  have HU := hide (fun W (hW : Below w.heap.size w W) => keepUntil_any b s now x W (hk.below hW))
  have HPT := hide (fun W v (hW : Below w.heap.size w W) (hv : ItemIs W v Y) => keepPut_any b s now x v Y (untilR s now x) W (hk.below hW) hv)
  have HKB := hide (fun W (hW : Below w.heap.size w W) => h.more hW)
  have HFF := hide (fun W v (hW : Below w.heap.size w W) (hv : ItemIs W v (getR s now x)) => HF W v ar hW hv hTR)
  have hbc := World.block_lt_of_cell? _ _ hf
  have hbg := World.block_lt_of_cell? _ _ hx
  have HGL : Hid (g0 < w.heap.size) := hbg
  have HX := hide (fun (W : World) (hW : Below w.heap.size w W) => And.intro ((hW.cell (p := ⟨bc, 0, none⟩) hbc).trans hf) ((hW.cell (p := ⟨g0, o0, none⟩) hbg).trans hx))
  obtain ⟨V, hV, AV, RB⟩ : ∃ V, w.alloc (.cells #[.int .i64 0, .string ⟨#[]⟩, .int .i64 0, .slice none 0 0] 27) = V ∧ Below w.heap.size w V ∧ V.heap[w.heap.size]? = some (.cells #[.int .i64 0, .string ⟨#[]⟩, .int .i64 0, .slice none 0 0] 27) := ⟨_, rfl, (Below.refl _ w).alloc (Nat.le_refl _) _, by show (w.heap.push _)[w.heap.size]? = _; simp⟩
  have hlen : ((r.length : Nat) : Int) + 1 - 1 = (r.length : Int) := by omega
  have hcl2 : ((r.length : Nat) : Int) + 1 ≤ ((cl : Nat) : Int) := by omega
  have h1r : (1 : Int) ≤ ((r.length : Nat) : Int) + 1 := by omega
  have hpos : (0 : Int) < ((r.length : Nat) : Int) + 1 := by omega
  have HRD : Hid (V.drew.heap[w.heap.size]? = some (.cells #[.int .i64 0, .string ⟨#[]⟩, .int .i64 0, .slice none 0 0] 27 (0, 0))) := RB
  have HBD : Hid (Below w.heap.size w V.drew) := AV.drew
  have HSS := hide hS
  clear h hk hf hl hTR hx HF RB AV hbc hbg hS
  generalize keptS s now x Y (untilR s now x) = S2 at *
  generalize putE s now x Y (untilR s now x) = PE at *
  generalize untilR s now x = U at *
  generalize getR s now x = X at *
  go_enter Tryz.func162, Tryz.ntmps162
  go_wp2_with fail
  clear hV
  refine wp_region_held_drew (S := (fun w' : World => w'.cell? ⟨bc, 0, none⟩ = some (.func (.func f) #[] fc) ∧ w'.cell? ⟨g0, o0, none⟩ = some (.string x))) (by kernel_rfl) (HX.out _ HBD.out) (fun hHeld => ?_)
  rename_i KX HKX
  have HT : Hid (∀ {y3 y4 y10 y11 y12 y13 y14 y15 y16 y17 y18 y19 y20 y21 y22 y23 y24 y25 y26 y27 y28 y29 y30 y31 y32 y33 y34 y35 y36 y37 y38 : Value} {bA bB : Nat} {W : World} {b1 b2 b3 : Option Addr} {e1 e2 e3 : Nat}, Below w.heap.size w W → W.heap[w.heap.size]? = some (.cells #[.int .i64 0, .string ⟨#[]⟩, .int .i64 0, .slice none 0 0] 27 (0, 0)) → W.heap[bA]? = some (.cells #[.int .i64 Y.k, .string Y.t, .slice b1 Y.l.length e1, .slice b2 Y.p.length e2, .slice b3 Y.s.length e3] 40 (0, 0)) → W.heap[bB]? = some (.cells #[.int .i64 rk, .string rt, .int .i64 rn, .slice none 0 0] 27 (0, 0)) → ItemIs W (.agg #[.int .i64 Y.k, .string Y.t, .slice b1 Y.l.length e1, .slice b2 Y.p.length e2, .slice b3 Y.s.length e3]) Y → w.heap.size < bA → w.heap.size < bB → KX ⟨#[.pointer (some ⟨b, 0, none⟩), .slice (some ⟨g0, o0, none⟩) (r.length + 1) cl, .pointer (some ⟨bc, 0, none⟩), y3, y4, .pointer (some ⟨w.heap.size, 0, none⟩), .int .i64 0, .pointer (some ⟨bA, 0, none⟩), .pointer (some ⟨bB, 0, none⟩), .int .i64 E, y10, y11, y12, y13, y14, y15, y16, y17, y18, y19, y20, y21, y22, y23, y24, y25, y26, y27, y28, y29, y30, y31, y32, y33, y34, y35, y36, y37, y38], []⟩ W) := by
    clear hHeld
    intro y3 y4 y10 y11 y12 y13 y14 y15 y16 y17 y18 y19 y20 y21 y22 y23 y24 y25 y26 y27 y28 y29 y30 y31 y32 y33 y34 y35 y36 y37 y38 bA bB W b1 b2 b3 e1 e2 e3 hB hR hA hC hY hlA hlB
    refine HKX _ _ ?_
    have HBW := hide hB
    have HA := hide hA
    have HC := hide hC
    have HRX := hide hR
    have HY := hide hY
    have HL := hide (And.intro hlA hlB)
    by_cases hE : E = 0
    · have q1 : (E == 0) = true := by rw [hE]; rfl
      have q2 : (E != 0) = false := by rw [hE]; rfl
      have hS0 : (fun w' : World => w'.cell? ⟨g0, o0, none⟩ = some (.string x) ∧ w'.cell? ⟨bB, 0, none⟩ = some (.int .i64 rk) ∧ w'.cell? ⟨bB, 1, none⟩ = some (.string rt) ∧ w'.cell? ⟨bB, 2, none⟩ = some (.int .i64 rn) ∧ w'.cell? ⟨bB, 3, none⟩ = some (.slice none 0 0) ∧ w'.cell? ⟨bA, 0, none⟩ = some (.int .i64 Y.k) ∧ w'.cell? ⟨bA, 1, none⟩ = some (.string Y.t) ∧ w'.cell? ⟨bA, 2, none⟩ = some (.slice b1 Y.l.length e1) ∧ w'.cell? ⟨bA, 3, none⟩ = some (.slice b2 Y.p.length e2) ∧ w'.cell? ⟨bA, 4, none⟩ = some (.slice b3 Y.s.length e3)) W.drew := ⟨(HX.out W.drew hB.drew).2, (by show W.cell? _ = _; simp [World.cell?, hC]), (by show W.cell? _ = _; simp [World.cell?, hC]), (by show W.cell? _ = _; simp [World.cell?, hC]), (by show W.cell? _ = _; simp [World.cell?, hC]), (by show W.cell? _ = _; simp [World.cell?, hA]), (by show W.cell? _ = _; simp [World.cell?, hA]), (by show W.cell? _ = _; simp [World.cell?, hA]), (by show W.cell? _ = _; simp [World.cell?, hA]), (by show W.cell? _ = _; simp [World.cell?, hA])⟩
      have HS0 := hide hS0
      have HBD : Hid (Below w.heap.size w W.drew) := hB.drew
      have HRD : Hid (W.drew.heap[w.heap.size]? = some (.cells #[.int .i64 0, .string ⟨#[]⟩, .int .i64 0, .slice none 0 0] 27 (0, 0))) := hR
      have HYD : Hid (ItemIs W.drew (.agg #[.int .i64 Y.k, .string Y.t, .slice b1 Y.l.length e1, .slice b2 Y.p.length e2, .slice b3 Y.s.length e3]) Y) := hY.below (Below.refl W.heap.size W).drew
      have HLD : Hid (bA < W.drew.heap.size ∧ bB < W.drew.heap.size ∧ w.heap.size < W.drew.heap.size) := ⟨(Array.getElem?_eq_some_iff.1 hA).1, (Array.getElem?_eq_some_iff.1 hC).1, (Array.getElem?_eq_some_iff.1 hR).1⟩
      clear hB hR hA hC hY hlA hlB hS0 HA HC HRX HY HBW
      go_wp2_with fail
      refine wp_region_held_drew (S := (fun w' : World => w'.cell? ⟨g0, o0, none⟩ = some (.string x) ∧ w'.cell? ⟨bB, 0, none⟩ = some (.int .i64 rk) ∧ w'.cell? ⟨bB, 1, none⟩ = some (.string rt) ∧ w'.cell? ⟨bB, 2, none⟩ = some (.int .i64 rn) ∧ w'.cell? ⟨bB, 3, none⟩ = some (.slice none 0 0) ∧ w'.cell? ⟨bA, 0, none⟩ = some (.int .i64 Y.k) ∧ w'.cell? ⟨bA, 1, none⟩ = some (.string Y.t) ∧ w'.cell? ⟨bA, 2, none⟩ = some (.slice b1 Y.l.length e1) ∧ w'.cell? ⟨bA, 3, none⟩ = some (.slice b2 Y.p.length e2) ∧ w'.cell? ⟨bA, 4, none⟩ = some (.slice b3 Y.s.length e3))) (by kernel_rfl) HS0.out (fun hHeld => ?_)
      generalize W.drew = W0 at *
      refine wpAnyH_take (i := 0) (v := .agg #[.int .i64 rk, .string rt, .int .i64 rn, .slice none 0 0]) rfl (by kernel_rfl) (by kernel_rfl) (by kernel_rfl) (fun _ _ _ h => h) (Or.inl ⟨by kernel_rfl, by intro w hSw; (try dsimp only at hSw); go_simp⟩) (by assumption) ?_
      refine wpAnyH_take (i := 1) (v := .pointer (some ⟨b, 0, none⟩)) rfl (by kernel_rfl) (by kernel_rfl) (by kernel_rfl) (fun _ _ _ h => h) (Or.inl ⟨by kernel_rfl, by intro w hSw; (try dsimp only at hSw); go_simp⟩) (by assumption) ?_
      refine wpAnyH_take (i := 2) (v := .slice (some ⟨g0, o0, none⟩) (r.length + 1) cl) rfl (by kernel_rfl) (by kernel_rfl) (by kernel_rfl) (fun _ _ _ h => h) (Or.inl ⟨by kernel_rfl, by intro w hSw; (try dsimp only at hSw); go_simp⟩) (by assumption) ?_
      refine wpAnyH_take (i := 3) (v := .pointer (some ⟨g0, o0, none⟩)) rfl (by kernel_rfl) (by kernel_rfl) (by kernel_rfl) (fun _ _ _ h => h) (Or.inl ⟨by kernel_rfl, by intro w hSw; (try dsimp only at hSw); go_simp⟩) (by assumption) ?_
      refine wpAnyH_take (i := 4) (v := .string x) rfl (by kernel_rfl) (by kernel_rfl) (by kernel_rfl) (fun _ _ _ h => h) (Or.inl ⟨by kernel_rfl, by intro w hSw; (try dsimp only at hSw); go_simp⟩) (by assumption) ?_
      refine wpAnyH_take (i := 5) (v := .agg #[.int .i64 Y.k, .string Y.t, .slice b1 Y.l.length e1, .slice b2 Y.p.length e2, .slice b3 Y.s.length e3]) rfl (by kernel_rfl) (by kernel_rfl) (by kernel_rfl) (fun _ _ _ h => h) (Or.inl ⟨by kernel_rfl, by intro w hSw; (try dsimp only at hSw); go_simp⟩) (by assumption) ?_
      refine wpAnyH_take (i := 6) (v := .pointer (some ⟨b, 0, none⟩)) rfl (by kernel_rfl) (by kernel_rfl) (by kernel_rfl) (fun _ _ _ h => h) (Or.inl ⟨by kernel_rfl, by intro w hSw; (try dsimp only at hSw); go_simp⟩) (by assumption) ?_
      refine wpAnyH_take (i := 7) (v := .slice (some ⟨g0, o0, none⟩) (r.length + 1) cl) rfl (by kernel_rfl) (by kernel_rfl) (by kernel_rfl) (fun _ _ _ h => h) (Or.inl ⟨by kernel_rfl, by intro w hSw; (try dsimp only at hSw); go_simp⟩) (by assumption) ?_
      refine wpAnyH_take (i := 8) (v := .pointer (some ⟨g0, o0, none⟩)) rfl (by kernel_rfl) (by kernel_rfl) (by kernel_rfl) (fun _ _ _ h => h) (Or.inl ⟨by kernel_rfl, by intro w hSw; (try dsimp only at hSw); go_simp⟩) (by assumption) ?_
      refine wpAnyH_take (i := 9) (v := .string x) rfl (by kernel_rfl) (by kernel_rfl) (by kernel_rfl) (fun _ _ _ h => h) (Or.inl ⟨by kernel_rfl, by intro w hSw; (try dsimp only at hSw); go_simp⟩) (by assumption) ?_
      refine wpAnyH_ready (rs := [10]) (by kernel_rfl) (by simp) ?_
      refine AllReadyH.cons rfl (fun K hK => ?_) (AllReadyH.nil)
      · go_simp
        refine (HU.out _ HBD.out).mono ?_
        rintro e w9 ⟨rfl, hb9⟩
        have hk9 := Kept.of_below hb9 (fun _ => False)
        have hS9 : (fun w' : World => w'.cell? ⟨g0, o0, none⟩ = some (.string x) ∧ w'.cell? ⟨bB, 0, none⟩ = some (.int .i64 rk) ∧ w'.cell? ⟨bB, 1, none⟩ = some (.string rt) ∧ w'.cell? ⟨bB, 2, none⟩ = some (.int .i64 rn) ∧ w'.cell? ⟨bB, 3, none⟩ = some (.slice none 0 0) ∧ w'.cell? ⟨bA, 0, none⟩ = some (.int .i64 Y.k) ∧ w'.cell? ⟨bA, 1, none⟩ = some (.string Y.t) ∧ w'.cell? ⟨bA, 2, none⟩ = some (.slice b1 Y.l.length e1) ∧ w'.cell? ⟨bA, 3, none⟩ = some (.slice b2 Y.p.length e2) ∧ w'.cell? ⟨bA, 4, none⟩ = some (.slice b3 Y.s.length e3)) w9 := S4_kept hk9 (Nat.lt_of_lt_of_le HGL.out HBD.out.size) (fun h => h) HLD.out.2.1 (fun h => h) HLD.out.1 (fun h => h) hHeld
        have HS9 := hide hS9
        have HB9 : Hid (Below w.heap.size w w9) := HBD.out.trans (hb9.mono HBD.out.size)
        have HY9 := hide (HYD.out.below hb9)
        have HR9 := hide ((hb9.block _ HLD.out.2.2).trans HRD.out)
        have HZ9 := hide hb9.size
        refine hK.out _ _ hS9 (fun hHeld9 => ?_)
        clear hK K hS9 hk9 hb9 hHeld
        refine wpAnyH_ready (rs := [11]) (by kernel_rfl) (by simp) ?_
        refine AllReadyH.cons rfl (fun K hK => ?_) (AllReadyH.nil)
        · go_simp
          refine (HPT.out _ _ HB9.out HY9.out).mono ?_
          rintro e w10 ⟨rfl, hk10, hp10⟩
          have hzb := HBL.out
          have hS10 : (fun w' : World => w'.cell? ⟨g0, o0, none⟩ = some (.string x) ∧ w'.cell? ⟨bB, 0, none⟩ = some (.int .i64 rk) ∧ w'.cell? ⟨bB, 1, none⟩ = some (.string rt) ∧ w'.cell? ⟨bB, 2, none⟩ = some (.int .i64 rn) ∧ w'.cell? ⟨bB, 3, none⟩ = some (.slice none 0 0) ∧ w'.cell? ⟨bA, 0, none⟩ = some (.int .i64 Y.k) ∧ w'.cell? ⟨bA, 1, none⟩ = some (.string Y.t) ∧ w'.cell? ⟨bA, 2, none⟩ = some (.slice b1 Y.l.length e1) ∧ w'.cell? ⟨bA, 3, none⟩ = some (.slice b2 Y.p.length e2) ∧ w'.cell? ⟨bA, 4, none⟩ = some (.slice b3 Y.s.length e3)) w10 := S4_kept hp10 (Nat.lt_of_lt_of_le HGL.out HB9.out.size) (by simp only [one]; exact hgb) (Nat.lt_of_lt_of_le HLD.out.2.1 HZ9.out) (by simp only [one]; have := HL.out; omega) (Nat.lt_of_lt_of_le HLD.out.1 HZ9.out) (by simp only [one]; have := HL.out; omega) HS9.out
          have HS10 := hide hS10
          have hR10 := (hp10.block _ (Nat.lt_of_lt_of_le HLD.out.2.2 HZ9.out) (by simp only [one]; omega)).trans HR9.out
          have HK10 := hide (hk10 (fun k => S k ∨ k = w.heap.size) (fun j hj => by
            rcases hj with hj | rfl
            · exact ⟨Nat.lt_of_lt_of_le (HSS.out j hj).1 HB9.out.size, (HSS.out j hj).2⟩
            · exact ⟨Nat.lt_of_lt_of_le HLD.out.2.2 HZ9.out, by omega⟩) (HKB.out _ HB9.out))
          have HKK : Hid (Kept (one b) w w10) := (Kept.of_below HB9.out (one b)).trans hp10
          have HZ10 : Hid (W0.heap.size ≤ w10.heap.size) := Nat.le_trans HZ9.out hp10.size
          refine hK.out _ _ hS10 (fun hHeld10 => ?_)
          clear hK K hS10 hk10 hp10 hHeld9
          have HPR := hide (put4R hR10 (.int .i64 rk) (.string rt) (.int .i64 rn) (.slice none 0 0))
          have m0 : w10.cell? ⟨w.heap.size, 0, none⟩ = some (.int .i64 0) := by simp [World.cell?, hR10]
          have n0 : w10.frozen? ⟨w.heap.size, 0, none⟩ = false := by simp [World.frozen?, hR10]
          have m1 : w10.cell? ⟨w.heap.size, 1, none⟩ = some (.string ⟨#[]⟩) := by simp [World.cell?, hR10]
          have n1 : w10.frozen? ⟨w.heap.size, 1, none⟩ = false := by simp [World.frozen?, hR10]
          have m2 : w10.cell? ⟨w.heap.size, 2, none⟩ = some (.int .i64 0) := by simp [World.cell?, hR10]
          have n2 : w10.frozen? ⟨w.heap.size, 2, none⟩ = false := by simp [World.frozen?, hR10]
          have m3 : w10.cell? ⟨w.heap.size, 3, none⟩ = some (.slice none 0 0) := by simp [World.cell?, hR10]
          have n3 : w10.frozen? ⟨w.heap.size, 3, none⟩ = false := by simp [World.frozen?, hR10]
          clear hR10
          refine wpAnyH_ready (rs := [12]) (by kernel_rfl) (by simp) ?_
          refine AllReadyH.cons rfl (fun K hK => ?_) (AllReadyH.nil)
          · go_simp
            obtain ⟨hH, hKp⟩ := HPR.out
            generalize ((((w10.setCell ⟨w.heap.size, 0, none⟩ (.int .i64 rk)).setCell ⟨w.heap.size, 1, none⟩ (.string rt)).setCell ⟨w.heap.size, 2, none⟩ (.int .i64 rn)).setCell ⟨w.heap.size, 3, none⟩ (.slice none 0 0)) = V4 at *
            have hS11 : (fun w' : World => w'.cell? ⟨g0, o0, none⟩ = some (.string x) ∧ w'.cell? ⟨bB, 0, none⟩ = some (.int .i64 rk) ∧ w'.cell? ⟨bB, 1, none⟩ = some (.string rt) ∧ w'.cell? ⟨bB, 2, none⟩ = some (.int .i64 rn) ∧ w'.cell? ⟨bB, 3, none⟩ = some (.slice none 0 0) ∧ w'.cell? ⟨bA, 0, none⟩ = some (.int .i64 Y.k) ∧ w'.cell? ⟨bA, 1, none⟩ = some (.string Y.t) ∧ w'.cell? ⟨bA, 2, none⟩ = some (.slice b1 Y.l.length e1) ∧ w'.cell? ⟨bA, 3, none⟩ = some (.slice b2 Y.p.length e2) ∧ w'.cell? ⟨bA, 4, none⟩ = some (.slice b3 Y.s.length e3)) V4 := S4_kept hKp (Nat.lt_of_lt_of_le HGL.out HKK.out.size) (by simp only [one]; have := HGL.out; omega) (Nat.lt_of_lt_of_le HLD.out.2.1 HZ10.out) (by simp only [one]; have := HL.out; omega) (Nat.lt_of_lt_of_le HLD.out.1 HZ10.out) (by simp only [one]; have := HL.out; omega) HS10.out
            refine hK.out _ _ hS11 (fun hHeld11 => ?_)
            clear hK K m0 m1 m2 m3 n0 n1 n2 n3 hS11
            refine wpAnyH_take (i := 13) (v := .int .i64 PE) rfl (by kernel_rfl) (by kernel_rfl) (by kernel_rfl) (fun _ _ _ h => h) (Or.inl ⟨by kernel_rfl, by intro w hSw; (try dsimp only at hSw); go_simp⟩) (by assumption) ?_
            refine wpAnyH_done (by kernel_rfl) ?_ _
            have HHH := hide hH
            have HKP := hide hKp
            clear hH hKp hHeld11 hHeld10
            go_wp2_with fail
            have hH := HHH.out
            refine bodyPost_ret (v := .tuple #[.agg #[.int .i64 rk, .string rt, .int .i64 rn, .slice none 0 0], .int .i64 PE]) (by simp [results, Tryz.results162, go_sem, World.cell?, hH]) rfl ⟨by first | rfl | rw [if_pos hE, if_pos hE], ?_, HKK.out.boxed HKP.out⟩
            first
              | exact KeepS.box HK10.out HKP.out
              | (rw [if_pos hE]; exact KeepS.box HK10.out HKP.out)
    · have q1 : (E == 0) = false := by rw [beq_eq_false_iff_ne]; exact hE
      have q2 : (E != 0) = true := by rw [bne_iff_ne]; exact hE
      have HPR := hide (put4R hR (.int .i64 0) (.string ⟨#[]⟩) (.int .i64 0) (.slice none 0 0))
      have m0 : W.cell? ⟨w.heap.size, 0, none⟩ = some (.int .i64 0) := by simp [World.cell?, hR]
      have n0 : W.frozen? ⟨w.heap.size, 0, none⟩ = false := by simp [World.frozen?, hR]
      have m1 : W.cell? ⟨w.heap.size, 1, none⟩ = some (.string ⟨#[]⟩) := by simp [World.cell?, hR]
      have n1 : W.frozen? ⟨w.heap.size, 1, none⟩ = false := by simp [World.frozen?, hR]
      have m2 : W.cell? ⟨w.heap.size, 2, none⟩ = some (.int .i64 0) := by simp [World.cell?, hR]
      have n2 : W.frozen? ⟨w.heap.size, 2, none⟩ = false := by simp [World.frozen?, hR]
      have m3 : W.cell? ⟨w.heap.size, 3, none⟩ = some (.slice none 0 0) := by simp [World.cell?, hR]
      have n3 : W.frozen? ⟨w.heap.size, 3, none⟩ = false := by simp [World.frozen?, hR]
      clear hB hR hA hC hY hlA hlB HA HC HY
      go_wp2_with fail
      obtain ⟨hH, hKp⟩ := HPR.out
      generalize ((((W.setCell ⟨w.heap.size, 0, none⟩ (.int .i64 0)).setCell ⟨w.heap.size, 1, none⟩ (.string ⟨#[]⟩)).setCell ⟨w.heap.size, 2, none⟩ (.int .i64 0)).setCell ⟨w.heap.size, 3, none⟩ (.slice none 0 0)) = V4 at *
      refine bodyPost_ret (v := .tuple #[.agg #[.int .i64 0, .string ⟨#[]⟩, .int .i64 0, .slice none 0 0], .int .i64 E]) (by simp [results, Tryz.results162, go_sem, World.cell?, hH]) rfl ⟨by first | rfl | rw [if_neg hE, if_neg hE], ?_, (Kept.of_below HBW.out (one b)).boxed hKp⟩
      first
        | exact KeepS.box (HKB.out _ HBW.out) hKp
        | (rw [if_neg hE]; exact KeepS.box (HKB.out _ HBW.out) hKp)
  clear HKX
  generalize V.drew = W0 at *
  have HR := HRD
  have HB := HBD
  clear HRD HBD
  refine wpAnyH_take (i := 0) (v := .func (.func f) #[] fc) rfl (by kernel_rfl) (by kernel_rfl) (by kernel_rfl) (fun _ _ _ h => h) (Or.inl ⟨by kernel_rfl, by intro w hSw; (try dsimp only at hSw); go_simp⟩) (by assumption) ?_
  refine wpAnyH_take (i := 1) (v := .pointer (some ⟨b, 0, none⟩)) rfl (by kernel_rfl) (by kernel_rfl) (by kernel_rfl) (fun _ _ _ h => h) (Or.inl ⟨by kernel_rfl, by intro w hSw; (try dsimp only at hSw); go_simp⟩) (by assumption) ?_
  refine wpAnyH_take (i := 2) (v := .slice (some ⟨g0, o0, none⟩) (r.length + 1) cl) rfl (by kernel_rfl) (by kernel_rfl) (by kernel_rfl) (fun _ _ _ h => h) (Or.inl ⟨by kernel_rfl, by intro w hSw; (try dsimp only at hSw); go_simp⟩) (by assumption) ?_
  refine wpAnyH_take (i := 3) (v := .pointer (some ⟨g0, o0, none⟩)) rfl (by kernel_rfl) (by kernel_rfl) (by kernel_rfl) (fun _ _ _ h => h) (Or.inl ⟨by kernel_rfl, by intro w hSw; (try dsimp only at hSw); go_simp⟩) (by assumption) ?_
  refine wpAnyH_take (i := 4) (v := .string x) rfl (by kernel_rfl) (by kernel_rfl) (by kernel_rfl) (fun _ _ _ h => h) (Or.inl ⟨by kernel_rfl, by intro w hSw; (try dsimp only at hSw); go_simp⟩) (by assumption) ?_
  refine wpAnyH_take (i := 6) (v := .slice (some ⟨g0, o0, none⟩) (r.length + 1) cl) rfl (by kernel_rfl) (by kernel_rfl) (by kernel_rfl) (fun _ _ _ h => h) (Or.inl ⟨by kernel_rfl, by intro w hSw; (try dsimp only at hSw); go_simp⟩) (by assumption) ?_
  refine wpAnyH_take (i := 7) (v := .slice ar r.length (cl - 1)) rfl (by kernel_rfl) (by kernel_rfl) (by kernel_rfl) (fun _ _ _ h => h) (Or.inl ⟨by kernel_rfl, by intro w hSw; (try dsimp only at hSw); go_simp⟩) (by assumption) ?_
  refine wpAnyH_ready (rs := [5, 13, 14]) (by kernel_rfl) (by simp) ?_
  refine AllReadyH.cons rfl (fun K hK => ?_) (AllReadyH.cons rfl (fun K hK => ?_) (AllReadyH.cons rfl (fun K hK => ?_) (AllReadyH.nil)))
  · go_simp
    refine (HI.out _ HB.out).mono ?_
    rintro e W1 ⟨⟨v, rfl, hi⟩, hb⟩
    obtain ⟨a1, c1, a2, c2, a3, c3, rfl⟩ := shapeE hi
    have HV := hide hi
    have HR2 := hide ((hb.block _ (Array.getElem?_eq_some_iff.1 HR.out).1).trans HR.out)
    have HB2 : Hid (Below w.heap.size w W1) := HB.out.trans (hb.mono HB.out.size)
    clear hb hi hHeld
    refine hK.out _ _ (HX.out _ HB2.out) (fun hHeld => ?_)
    clear hK K
    replace HR := HR2
    replace HB := HB2
    clear HR2 HB2
    refine wpAnyH_ready (rs := [8, 13, 14]) (by kernel_rfl) (by simp) ?_
    refine AllReadyH.cons rfl (fun K hK => ?_) (AllReadyH.cons rfl (fun K hK => ?_) (AllReadyH.cons rfl (fun K hK => ?_) (AllReadyH.nil)))
    · go_simp
      refine (HFF.out _ _ HB.out HV.out).mono ?_
      rintro e W2 ⟨⟨u, rfl, hy⟩, hb⟩
      obtain ⟨b1, e1, b2, e2, b3, e3, rfl⟩ := shapeE hy.at
      have HY : Hid (ItFrom W1.heap.size W2 _ Y) := hy
      have HLA : Hid (W1.heap.size ≤ W2.heap.size) := hb.size
      have HR2 := hide ((hb.block _ (Array.getElem?_eq_some_iff.1 HR.out).1).trans HR.out)
      have HB2 : Hid (Below w.heap.size w W2) := HB.out.trans (hb.mono HB.out.size)
      clear hb hy hHeld HV
      refine hK.out _ _ (HX.out _ HB2.out) (fun hHeld => ?_)
      clear hK K
      replace HR := HR2
      replace HB := HB2
      clear HR2 HB2
      refine wpAnyH_take (i := 9) (v := .tuple #[.agg #[.int .i64 Y.k, .string Y.t, .slice b1 Y.l.length e1, .slice b2 Y.p.length e2, .slice b3 Y.s.length e3], .agg #[.int .i64 rk, .string rt, .int .i64 rn, .slice none 0 0], .int .i64 E]) rfl (by kernel_rfl) (by kernel_rfl) (by kernel_rfl) (fun _ _ _ h => h) (Or.inl ⟨by kernel_rfl, by intro w hSw; (try dsimp only at hSw); go_simp⟩) (by assumption) ?_
      refine wpAnyH_take (i := 10) (v := .agg #[.int .i64 Y.k, .string Y.t, .slice b1 Y.l.length e1, .slice b2 Y.p.length e2, .slice b3 Y.s.length e3]) rfl (by kernel_rfl) (by kernel_rfl) (by kernel_rfl) (fun _ _ _ h => h) (Or.inl ⟨by kernel_rfl, by intro w hSw; (try dsimp only at hSw); go_simp⟩) (by assumption) ?_
      refine wpAnyH_take (i := 11) (v := .agg #[.int .i64 rk, .string rt, .int .i64 rn, .slice none 0 0]) rfl (by kernel_rfl) (by kernel_rfl) (by kernel_rfl) (fun _ _ _ h => h) (Or.inl ⟨by kernel_rfl, by intro w hSw; (try dsimp only at hSw); go_simp⟩) (by assumption) ?_
      refine wpAnyH_take (i := 12) (v := .int .i64 E) rfl (by kernel_rfl) (by kernel_rfl) (by kernel_rfl) (fun _ _ _ h => h) (Or.inl ⟨by kernel_rfl, by intro w hSw; (try dsimp only at hSw); go_simp⟩) (by assumption) ?_
      have HYY : Hid (∀ w', (∀ k, k < W2.heap.size → w'.heap[k]? = W2.heap[k]?) → ItemIs w' (.agg #[.int .i64 Y.k, .string Y.t, .slice b1 Y.l.length e1, .slice b2 Y.p.length e2, .slice b3 Y.s.length e3]) Y) := fun w' hag => HY.out w' (fun k h1 h2 => hag k h2)
      clear HY HLA
      refine wpAnyH_ready (rs := [13, 14]) (by kernel_rfl) (by simp) ?_
      refine AllReadyH.cons rfl (fun K hK => ?_) (AllReadyH.cons rfl (fun K hK => ?_) (AllReadyH.nil))
      · go_simp
        have HGA : Hid (w.heap.size < W2.heap.size) := (Array.getElem?_eq_some_iff.1 HR.out).1
        obtain ⟨W3, hW, hb, hN⟩ : ∃ V', W2.alloc (.cells #[.int .i64 0, .string ⟨#[]⟩, .slice none 0 0, .slice none 0 0, .slice none 0 0] 40) = V' ∧ Below W2.heap.size W2 V' ∧ V'.heap[W2.heap.size]? = some (.cells #[.int .i64 0, .string ⟨#[]⟩, .slice none 0 0, .slice none 0 0, .slice none 0 0] 40 (0, 0)) := ⟨_, rfl, (Below.refl _ W2).alloc (Nat.le_refl _) _, by show (W2.heap.push _)[W2.heap.size]? = _; simp⟩
        rw [hW]
        have HA2 := hide hN
        have HR2 := hide ((hb.block _ (Array.getElem?_eq_some_iff.1 HR.out).1).trans HR.out)
        have HB2 : Hid (Below w.heap.size w W3) := HB.out.trans (hb.mono HB.out.size)
        have HYY2 : Hid (∀ w', (∀ k, k < W3.heap.size → k ≠ W2.heap.size → w'.heap[k]? = W3.heap[k]?) → ItemIs w' (.agg #[.int .i64 Y.k, .string Y.t, .slice b1 Y.l.length e1, .slice b2 Y.p.length e2, .slice b3 Y.s.length e3]) Y) := fun w' hag => HYY.out w' (fun k h1 => (hag k (Nat.lt_of_lt_of_le h1 hb.size) (by omega)).trans (hb.block k h1))
        clear hb hN hW hHeld
        refine hK.out _ _ (HX.out _ HB2.out) (fun hHeld => ?_)
        clear hK K
        replace HR := HR2
        replace HB := HB2
        clear HR2 HB2
        have HA := HA2
        clear HA2
        replace HYY := HYY2
        clear HYY2
        refine wpAnyH_ready (rs := [14]) (by kernel_rfl) (by simp) ?_
        refine AllReadyH.cons rfl (fun K hK => ?_) (AllReadyH.nil)
        · go_simp
          have HGC : Hid (w.heap.size < W3.heap.size) := (Array.getElem?_eq_some_iff.1 HR.out).1
          obtain ⟨W4, hW, hb, hN⟩ : ∃ V', W3.alloc (.cells #[.int .i64 0, .string ⟨#[]⟩, .int .i64 0, .slice none 0 0] 27) = V' ∧ Below W3.heap.size W3 V' ∧ V'.heap[W3.heap.size]? = some (.cells #[.int .i64 0, .string ⟨#[]⟩, .int .i64 0, .slice none 0 0] 27 (0, 0)) := ⟨_, rfl, (Below.refl _ W3).alloc (Nat.le_refl _) _, by show (W3.heap.push _)[W3.heap.size]? = _; simp⟩
          rw [hW]
          have HC2 := hide hN
          have HR2 := hide ((hb.block _ (Array.getElem?_eq_some_iff.1 HR.out).1).trans HR.out)
          have HB2 : Hid (Below w.heap.size w W4) := HB.out.trans (hb.mono HB.out.size)
          have HA2 := hide ((hb.block _ (Array.getElem?_eq_some_iff.1 HA.out).1).trans HA.out)
          have HYY2 : Hid (∀ w', (∀ k, k < W4.heap.size → k ≠ W2.heap.size → k ≠ W3.heap.size → w'.heap[k]? = W4.heap[k]?) → ItemIs w' (.agg #[.int .i64 Y.k, .string Y.t, .slice b1 Y.l.length e1, .slice b2 Y.p.length e2, .slice b3 Y.s.length e3]) Y) := fun w' hag => HYY.out w' (fun k h1 hA => (hag k (Nat.lt_of_lt_of_le h1 hb.size) hA (by omega)).trans (hb.block k h1))
          clear hb hN hW hHeld
          refine hK.out _ _ (HX.out _ HB2.out) (fun hHeld => ?_)
          clear hK K
          replace HR := HR2
          replace HB := HB2
          clear HR2 HB2
          replace HA := HA2
          clear HA2
          have HC := HC2
          clear HC2
          replace HYY := HYY2
          clear HYY2
          have hA := HA.out
          have hC := HC.out
          have hAC : ¬ W2.heap.size = W3.heap.size := fun h => by rw [h, hC] at hA; simp at hA
          have HP := hide (put5Q hA (.int .i64 Y.k) (.string Y.t) (.slice b1 Y.l.length e1) (.slice b2 Y.p.length e2) (.slice b3 Y.s.length e3))
          have m0 : W4.cell? ⟨W2.heap.size, 0, none⟩ = some (.int .i64 0) := by simp [World.cell?, hA]
          have n0 : W4.frozen? ⟨W2.heap.size, 0, none⟩ = false := by simp [World.frozen?, hA]
          have m1 : W4.cell? ⟨W2.heap.size, 1, none⟩ = some (.string ⟨#[]⟩) := by simp [World.cell?, hA]
          have n1 : W4.frozen? ⟨W2.heap.size, 1, none⟩ = false := by simp [World.frozen?, hA]
          have m2 : W4.cell? ⟨W2.heap.size, 2, none⟩ = some (.slice none 0 0) := by simp [World.cell?, hA]
          have n2 : W4.frozen? ⟨W2.heap.size, 2, none⟩ = false := by simp [World.frozen?, hA]
          have m3 : W4.cell? ⟨W2.heap.size, 3, none⟩ = some (.slice none 0 0) := by simp [World.cell?, hA]
          have n3 : W4.frozen? ⟨W2.heap.size, 3, none⟩ = false := by simp [World.frozen?, hA]
          have m4 : W4.cell? ⟨W2.heap.size, 4, none⟩ = some (.slice none 0 0) := by simp [World.cell?, hA]
          have n4 : W4.frozen? ⟨W2.heap.size, 4, none⟩ = false := by simp [World.frozen?, hA]
          have HL0 : Hid (w.heap.size < W2.heap.size ∧ w.heap.size < W3.heap.size) := ⟨HGA.out, HGC.out⟩
          clear hA hC
          refine wpAnyH_ready (rs := [15]) (by kernel_rfl) (by simp) ?_
          refine AllReadyH.cons rfl (fun K hK => ?_) (AllReadyH.nil)
          · go_simp
            obtain ⟨hH, hKp⟩ := HP.out
            generalize (((((W4.setCell ⟨W2.heap.size, 0, none⟩ (.int .i64 Y.k)).setCell ⟨W2.heap.size, 1, none⟩ (.string Y.t)).setCell ⟨W2.heap.size, 2, none⟩ (.slice b1 Y.l.length e1)).setCell ⟨W2.heap.size, 3, none⟩ (.slice b2 Y.p.length e2)).setCell ⟨W2.heap.size, 4, none⟩ (.slice b3 Y.s.length e3)) = WA at *
            have HB2 : Hid (Below w.heap.size w WA) := HB.out.trans (hKp.below (B := w.heap.size) (by have := HB.out.size; omega) (fun k hk => by simp only [one] at hk; have := HL0.out; omega))
            have hCC := (hKp.block _ (Array.getElem?_eq_some_iff.1 HC.out).1 (by simp only [one]; omega)).trans HC.out
            have hRR := (hKp.block _ (Array.getElem?_eq_some_iff.1 HR.out).1 (by simp only [one]; have := HL0.out; omega)).trans HR.out
            have HK1 := hide hKp
            have HAA := hide hH
            refine hK.out _ _ (HX.out _ HB2.out) (fun hHeld2 => ?_)
            clear hK K m0 m1 m2 m3 m4 n0 n1 n2 n3 n4 hH hKp
            have HQ := hide (put4R hCC (.int .i64 rk) (.string rt) (.int .i64 rn) (.slice none 0 0))
            have m0 : WA.cell? ⟨W3.heap.size, 0, none⟩ = some (.int .i64 0) := by simp [World.cell?, hCC]
            have n0 : WA.frozen? ⟨W3.heap.size, 0, none⟩ = false := by simp [World.frozen?, hCC]
            have m1 : WA.cell? ⟨W3.heap.size, 1, none⟩ = some (.string ⟨#[]⟩) := by simp [World.cell?, hCC]
            have n1 : WA.frozen? ⟨W3.heap.size, 1, none⟩ = false := by simp [World.frozen?, hCC]
            have m2 : WA.cell? ⟨W3.heap.size, 2, none⟩ = some (.int .i64 0) := by simp [World.cell?, hCC]
            have n2 : WA.frozen? ⟨W3.heap.size, 2, none⟩ = false := by simp [World.frozen?, hCC]
            have m3 : WA.cell? ⟨W3.heap.size, 3, none⟩ = some (.slice none 0 0) := by simp [World.cell?, hCC]
            have n3 : WA.frozen? ⟨W3.heap.size, 3, none⟩ = false := by simp [World.frozen?, hCC]
            have HRR := hide hRR
            clear hCC hRR
            refine wpAnyH_ready (rs := [16]) (by kernel_rfl) (by simp) ?_
            refine AllReadyH.cons rfl (fun K hK => ?_) (AllReadyH.nil)
            · go_simp
              obtain ⟨hH, hKp⟩ := HQ.out
              generalize ((((WA.setCell ⟨W3.heap.size, 0, none⟩ (.int .i64 rk)).setCell ⟨W3.heap.size, 1, none⟩ (.string rt)).setCell ⟨W3.heap.size, 2, none⟩ (.int .i64 rn)).setCell ⟨W3.heap.size, 3, none⟩ (.slice none 0 0)) = WB at *
              have HB3 : Hid (Below w.heap.size w WB) := HB2.out.trans (hKp.below (B := w.heap.size) (by have := HB2.out.size; omega) (fun k hk => by simp only [one] at hk; have := HL0.out; omega))
              refine hK.out _ _ (HX.out _ HB3.out) (fun hHeld3 => ?_)
              clear hK K m0 m1 m2 m3 n0 n1 n2 n3
              refine wpAnyH_take (i := 17) (v := .int .i64 E) rfl (by kernel_rfl) (by kernel_rfl) (by kernel_rfl) (fun _ _ _ h => h) (Or.inl ⟨by kernel_rfl, by intro w hSw; (try dsimp only at hSw); go_simp⟩) (by assumption) ?_
              refine wpAnyH_done (by kernel_rfl) ?_ _
              refine HT.out HB3.out ((hKp.block _ (Array.getElem?_eq_some_iff.1 HRR.out).1 (by simp only [one]; have := HL0.out; omega)).trans HRR.out) ((hKp.block _ (Array.getElem?_eq_some_iff.1 HAA.out).1 (by simp only [one]; omega)).trans HAA.out) hH (HYY.out WB (fun k h1 h2 h3 => (hKp.block k (Nat.lt_of_lt_of_le h1 HK1.out.size) (by simp only [one]; omega)).trans (HK1.out.block k h1 (by simp only [one]; omega)))) HL0.out.1 HL0.out.2
      · go_simp
        have HGC : Hid (w.heap.size < W2.heap.size) := (Array.getElem?_eq_some_iff.1 HR.out).1
        obtain ⟨W5, hW, hb, hN⟩ : ∃ V', W2.alloc (.cells #[.int .i64 0, .string ⟨#[]⟩, .int .i64 0, .slice none 0 0] 27) = V' ∧ Below W2.heap.size W2 V' ∧ V'.heap[W2.heap.size]? = some (.cells #[.int .i64 0, .string ⟨#[]⟩, .int .i64 0, .slice none 0 0] 27 (0, 0)) := ⟨_, rfl, (Below.refl _ W2).alloc (Nat.le_refl _) _, by show (W2.heap.push _)[W2.heap.size]? = _; simp⟩
        rw [hW]
        have HC2 := hide hN
        have HR2 := hide ((hb.block _ (Array.getElem?_eq_some_iff.1 HR.out).1).trans HR.out)
        have HB2 : Hid (Below w.heap.size w W5) := HB.out.trans (hb.mono HB.out.size)
        have HYY2 : Hid (∀ w', (∀ k, k < W5.heap.size → k ≠ W2.heap.size → w'.heap[k]? = W5.heap[k]?) → ItemIs w' (.agg #[.int .i64 Y.k, .string Y.t, .slice b1 Y.l.length e1, .slice b2 Y.p.length e2, .slice b3 Y.s.length e3]) Y) := fun w' hag => HYY.out w' (fun k h1 => (hag k (Nat.lt_of_lt_of_le h1 hb.size) (by omega)).trans (hb.block k h1))
        clear hb hN hW hHeld
        refine hK.out _ _ (HX.out _ HB2.out) (fun hHeld => ?_)
        clear hK K
        replace HR := HR2
        replace HB := HB2
        clear HR2 HB2
        have HC := HC2
        clear HC2
        replace HYY := HYY2
        clear HYY2
        refine wpAnyH_ready (rs := [13]) (by kernel_rfl) (by simp) ?_
        refine AllReadyH.cons rfl (fun K hK => ?_) (AllReadyH.nil)
        · go_simp
          have HGA : Hid (w.heap.size < W5.heap.size) := (Array.getElem?_eq_some_iff.1 HR.out).1
          obtain ⟨W6, hW, hb, hN⟩ : ∃ V', W5.alloc (.cells #[.int .i64 0, .string ⟨#[]⟩, .slice none 0 0, .slice none 0 0, .slice none 0 0] 40) = V' ∧ Below W5.heap.size W5 V' ∧ V'.heap[W5.heap.size]? = some (.cells #[.int .i64 0, .string ⟨#[]⟩, .slice none 0 0, .slice none 0 0, .slice none 0 0] 40 (0, 0)) := ⟨_, rfl, (Below.refl _ W5).alloc (Nat.le_refl _) _, by show (W5.heap.push _)[W5.heap.size]? = _; simp⟩
          rw [hW]
          have HA2 := hide hN
          have HR2 := hide ((hb.block _ (Array.getElem?_eq_some_iff.1 HR.out).1).trans HR.out)
          have HB2 : Hid (Below w.heap.size w W6) := HB.out.trans (hb.mono HB.out.size)
          have HC2 := hide ((hb.block _ (Array.getElem?_eq_some_iff.1 HC.out).1).trans HC.out)
          have HYY2 : Hid (∀ w', (∀ k, k < W6.heap.size → k ≠ W5.heap.size → k ≠ W2.heap.size → w'.heap[k]? = W6.heap[k]?) → ItemIs w' (.agg #[.int .i64 Y.k, .string Y.t, .slice b1 Y.l.length e1, .slice b2 Y.p.length e2, .slice b3 Y.s.length e3]) Y) := fun w' hag => HYY.out w' (fun k h1 hC => (hag k (Nat.lt_of_lt_of_le h1 hb.size) (by omega) hC).trans (hb.block k h1))
          clear hb hN hW hHeld
          refine hK.out _ _ (HX.out _ HB2.out) (fun hHeld => ?_)
          clear hK K
          replace HR := HR2
          replace HB := HB2
          clear HR2 HB2
          have HA := HA2
          clear HA2
          replace HC := HC2
          clear HC2
          replace HYY := HYY2
          clear HYY2
          have hA := HA.out
          have hC := HC.out
          have hAC : ¬ W5.heap.size = W2.heap.size := fun h => by rw [h, hC] at hA; simp at hA
          have HP := hide (put5Q hA (.int .i64 Y.k) (.string Y.t) (.slice b1 Y.l.length e1) (.slice b2 Y.p.length e2) (.slice b3 Y.s.length e3))
          have m0 : W6.cell? ⟨W5.heap.size, 0, none⟩ = some (.int .i64 0) := by simp [World.cell?, hA]
          have n0 : W6.frozen? ⟨W5.heap.size, 0, none⟩ = false := by simp [World.frozen?, hA]
          have m1 : W6.cell? ⟨W5.heap.size, 1, none⟩ = some (.string ⟨#[]⟩) := by simp [World.cell?, hA]
          have n1 : W6.frozen? ⟨W5.heap.size, 1, none⟩ = false := by simp [World.frozen?, hA]
          have m2 : W6.cell? ⟨W5.heap.size, 2, none⟩ = some (.slice none 0 0) := by simp [World.cell?, hA]
          have n2 : W6.frozen? ⟨W5.heap.size, 2, none⟩ = false := by simp [World.frozen?, hA]
          have m3 : W6.cell? ⟨W5.heap.size, 3, none⟩ = some (.slice none 0 0) := by simp [World.cell?, hA]
          have n3 : W6.frozen? ⟨W5.heap.size, 3, none⟩ = false := by simp [World.frozen?, hA]
          have m4 : W6.cell? ⟨W5.heap.size, 4, none⟩ = some (.slice none 0 0) := by simp [World.cell?, hA]
          have n4 : W6.frozen? ⟨W5.heap.size, 4, none⟩ = false := by simp [World.frozen?, hA]
          have HL0 : Hid (w.heap.size < W5.heap.size ∧ w.heap.size < W2.heap.size) := ⟨HGA.out, HGC.out⟩
          clear hA hC
          refine wpAnyH_ready (rs := [15]) (by kernel_rfl) (by simp) ?_
          refine AllReadyH.cons rfl (fun K hK => ?_) (AllReadyH.nil)
          · go_simp
            obtain ⟨hH, hKp⟩ := HP.out
            generalize (((((W6.setCell ⟨W5.heap.size, 0, none⟩ (.int .i64 Y.k)).setCell ⟨W5.heap.size, 1, none⟩ (.string Y.t)).setCell ⟨W5.heap.size, 2, none⟩ (.slice b1 Y.l.length e1)).setCell ⟨W5.heap.size, 3, none⟩ (.slice b2 Y.p.length e2)).setCell ⟨W5.heap.size, 4, none⟩ (.slice b3 Y.s.length e3)) = WA at *
            have HB2 : Hid (Below w.heap.size w WA) := HB.out.trans (hKp.below (B := w.heap.size) (by have := HB.out.size; omega) (fun k hk => by simp only [one] at hk; have := HL0.out; omega))
            have hCC := (hKp.block _ (Array.getElem?_eq_some_iff.1 HC.out).1 (by simp only [one]; omega)).trans HC.out
            have hRR := (hKp.block _ (Array.getElem?_eq_some_iff.1 HR.out).1 (by simp only [one]; have := HL0.out; omega)).trans HR.out
            have HK1 := hide hKp
            have HAA := hide hH
            refine hK.out _ _ (HX.out _ HB2.out) (fun hHeld2 => ?_)
            clear hK K m0 m1 m2 m3 m4 n0 n1 n2 n3 n4 hH hKp
            have HQ := hide (put4R hCC (.int .i64 rk) (.string rt) (.int .i64 rn) (.slice none 0 0))
            have m0 : WA.cell? ⟨W2.heap.size, 0, none⟩ = some (.int .i64 0) := by simp [World.cell?, hCC]
            have n0 : WA.frozen? ⟨W2.heap.size, 0, none⟩ = false := by simp [World.frozen?, hCC]
            have m1 : WA.cell? ⟨W2.heap.size, 1, none⟩ = some (.string ⟨#[]⟩) := by simp [World.cell?, hCC]
            have n1 : WA.frozen? ⟨W2.heap.size, 1, none⟩ = false := by simp [World.frozen?, hCC]
            have m2 : WA.cell? ⟨W2.heap.size, 2, none⟩ = some (.int .i64 0) := by simp [World.cell?, hCC]
            have n2 : WA.frozen? ⟨W2.heap.size, 2, none⟩ = false := by simp [World.frozen?, hCC]
            have m3 : WA.cell? ⟨W2.heap.size, 3, none⟩ = some (.slice none 0 0) := by simp [World.cell?, hCC]
            have n3 : WA.frozen? ⟨W2.heap.size, 3, none⟩ = false := by simp [World.frozen?, hCC]
            have HRR := hide hRR
            clear hCC hRR
            refine wpAnyH_ready (rs := [16]) (by kernel_rfl) (by simp) ?_
            refine AllReadyH.cons rfl (fun K hK => ?_) (AllReadyH.nil)
            · go_simp
              obtain ⟨hH, hKp⟩ := HQ.out
              generalize ((((WA.setCell ⟨W2.heap.size, 0, none⟩ (.int .i64 rk)).setCell ⟨W2.heap.size, 1, none⟩ (.string rt)).setCell ⟨W2.heap.size, 2, none⟩ (.int .i64 rn)).setCell ⟨W2.heap.size, 3, none⟩ (.slice none 0 0)) = WB at *
              have HB3 : Hid (Below w.heap.size w WB) := HB2.out.trans (hKp.below (B := w.heap.size) (by have := HB2.out.size; omega) (fun k hk => by simp only [one] at hk; have := HL0.out; omega))
              refine hK.out _ _ (HX.out _ HB3.out) (fun hHeld3 => ?_)
              clear hK K m0 m1 m2 m3 n0 n1 n2 n3
              refine wpAnyH_take (i := 17) (v := .int .i64 E) rfl (by kernel_rfl) (by kernel_rfl) (by kernel_rfl) (fun _ _ _ h => h) (Or.inl ⟨by kernel_rfl, by intro w hSw; (try dsimp only at hSw); go_simp⟩) (by assumption) ?_
              refine wpAnyH_done (by kernel_rfl) ?_ _
              refine HT.out HB3.out ((hKp.block _ (Array.getElem?_eq_some_iff.1 HRR.out).1 (by simp only [one]; have := HL0.out; omega)).trans HRR.out) ((hKp.block _ (Array.getElem?_eq_some_iff.1 HAA.out).1 (by simp only [one]; omega)).trans HAA.out) hH (HYY.out WB (fun k h1 h2 h3 => (hKp.block k (Nat.lt_of_lt_of_le h1 HK1.out.size) (by simp only [one]; omega)).trans (HK1.out.block k h1 (by simp only [one]; omega)))) HL0.out.1 HL0.out.2
    · go_simp
      have HGA : Hid (w.heap.size < W1.heap.size) := (Array.getElem?_eq_some_iff.1 HR.out).1
      obtain ⟨W7, hW, hb, hN⟩ : ∃ V', W1.alloc (.cells #[.int .i64 0, .string ⟨#[]⟩, .slice none 0 0, .slice none 0 0, .slice none 0 0] 40) = V' ∧ Below W1.heap.size W1 V' ∧ V'.heap[W1.heap.size]? = some (.cells #[.int .i64 0, .string ⟨#[]⟩, .slice none 0 0, .slice none 0 0, .slice none 0 0] 40 (0, 0)) := ⟨_, rfl, (Below.refl _ W1).alloc (Nat.le_refl _) _, by show (W1.heap.push _)[W1.heap.size]? = _; simp⟩
      rw [hW]
      have HA2 := hide hN
      have HR2 := hide ((hb.block _ (Array.getElem?_eq_some_iff.1 HR.out).1).trans HR.out)
      have HB2 : Hid (Below w.heap.size w W7) := HB.out.trans (hb.mono HB.out.size)
      have HV2 := hide (HV.out.below hb)
      clear hb hN hW hHeld
      refine hK.out _ _ (HX.out _ HB2.out) (fun hHeld => ?_)
      clear hK K
      replace HR := HR2
      replace HB := HB2
      clear HR2 HB2
      have HA := HA2
      clear HA2
      replace HV := HV2
      clear HV2
      refine wpAnyH_ready (rs := [8, 14]) (by kernel_rfl) (by simp) ?_
      refine AllReadyH.cons rfl (fun K hK => ?_) (AllReadyH.cons rfl (fun K hK => ?_) (AllReadyH.nil))
      · go_simp
        refine (HFF.out _ _ HB.out HV.out).mono ?_
        rintro e W8 ⟨⟨u, rfl, hy⟩, hb⟩
        obtain ⟨b1, e1, b2, e2, b3, e3, rfl⟩ := shapeE hy.at
        have HY : Hid (ItFrom W7.heap.size W8 _ Y) := hy
        have HLA : Hid (W7.heap.size ≤ W8.heap.size) := hb.size
        have HLB : Hid (W1.heap.size < W7.heap.size) := (Array.getElem?_eq_some_iff.1 HA.out).1
        have HR2 := hide ((hb.block _ (Array.getElem?_eq_some_iff.1 HR.out).1).trans HR.out)
        have HB2 : Hid (Below w.heap.size w W8) := HB.out.trans (hb.mono HB.out.size)
        have HA2 := hide ((hb.block _ (Array.getElem?_eq_some_iff.1 HA.out).1).trans HA.out)
        clear hb hy hHeld HV
        refine hK.out _ _ (HX.out _ HB2.out) (fun hHeld => ?_)
        clear hK K
        replace HR := HR2
        replace HB := HB2
        clear HR2 HB2
        replace HA := HA2
        clear HA2
        refine wpAnyH_take (i := 9) (v := .tuple #[.agg #[.int .i64 Y.k, .string Y.t, .slice b1 Y.l.length e1, .slice b2 Y.p.length e2, .slice b3 Y.s.length e3], .agg #[.int .i64 rk, .string rt, .int .i64 rn, .slice none 0 0], .int .i64 E]) rfl (by kernel_rfl) (by kernel_rfl) (by kernel_rfl) (fun _ _ _ h => h) (Or.inl ⟨by kernel_rfl, by intro w hSw; (try dsimp only at hSw); go_simp⟩) (by assumption) ?_
        refine wpAnyH_take (i := 10) (v := .agg #[.int .i64 Y.k, .string Y.t, .slice b1 Y.l.length e1, .slice b2 Y.p.length e2, .slice b3 Y.s.length e3]) rfl (by kernel_rfl) (by kernel_rfl) (by kernel_rfl) (fun _ _ _ h => h) (Or.inl ⟨by kernel_rfl, by intro w hSw; (try dsimp only at hSw); go_simp⟩) (by assumption) ?_
        refine wpAnyH_take (i := 11) (v := .agg #[.int .i64 rk, .string rt, .int .i64 rn, .slice none 0 0]) rfl (by kernel_rfl) (by kernel_rfl) (by kernel_rfl) (fun _ _ _ h => h) (Or.inl ⟨by kernel_rfl, by intro w hSw; (try dsimp only at hSw); go_simp⟩) (by assumption) ?_
        refine wpAnyH_take (i := 12) (v := .int .i64 E) rfl (by kernel_rfl) (by kernel_rfl) (by kernel_rfl) (fun _ _ _ h => h) (Or.inl ⟨by kernel_rfl, by intro w hSw; (try dsimp only at hSw); go_simp⟩) (by assumption) ?_
        have HYY : Hid (∀ w', (∀ k, k < W8.heap.size → k ≠ W1.heap.size → w'.heap[k]? = W8.heap[k]?) → ItemIs w' (.agg #[.int .i64 Y.k, .string Y.t, .slice b1 Y.l.length e1, .slice b2 Y.p.length e2, .slice b3 Y.s.length e3]) Y) := fun w' hag => HY.out w' (fun k h1 h2 => hag k h2 (by have := HLB.out; omega))
        clear HY HLA HLB
        refine wpAnyH_ready (rs := [14]) (by kernel_rfl) (by simp) ?_
        refine AllReadyH.cons rfl (fun K hK => ?_) (AllReadyH.nil)
        · go_simp
          have HGC : Hid (w.heap.size < W8.heap.size) := (Array.getElem?_eq_some_iff.1 HR.out).1
          obtain ⟨W9, hW, hb, hN⟩ : ∃ V', W8.alloc (.cells #[.int .i64 0, .string ⟨#[]⟩, .int .i64 0, .slice none 0 0] 27) = V' ∧ Below W8.heap.size W8 V' ∧ V'.heap[W8.heap.size]? = some (.cells #[.int .i64 0, .string ⟨#[]⟩, .int .i64 0, .slice none 0 0] 27 (0, 0)) := ⟨_, rfl, (Below.refl _ W8).alloc (Nat.le_refl _) _, by show (W8.heap.push _)[W8.heap.size]? = _; simp⟩
          rw [hW]
          have HC2 := hide hN
          have HR2 := hide ((hb.block _ (Array.getElem?_eq_some_iff.1 HR.out).1).trans HR.out)
          have HB2 : Hid (Below w.heap.size w W9) := HB.out.trans (hb.mono HB.out.size)
          have HA2 := hide ((hb.block _ (Array.getElem?_eq_some_iff.1 HA.out).1).trans HA.out)
          have HYY2 : Hid (∀ w', (∀ k, k < W9.heap.size → k ≠ W1.heap.size → k ≠ W8.heap.size → w'.heap[k]? = W9.heap[k]?) → ItemIs w' (.agg #[.int .i64 Y.k, .string Y.t, .slice b1 Y.l.length e1, .slice b2 Y.p.length e2, .slice b3 Y.s.length e3]) Y) := fun w' hag => HYY.out w' (fun k h1 hA => (hag k (Nat.lt_of_lt_of_le h1 hb.size) hA (by omega)).trans (hb.block k h1))
          clear hb hN hW hHeld
          refine hK.out _ _ (HX.out _ HB2.out) (fun hHeld => ?_)
          clear hK K
          replace HR := HR2
          replace HB := HB2
          clear HR2 HB2
          replace HA := HA2
          clear HA2
          have HC := HC2
          clear HC2
          replace HYY := HYY2
          clear HYY2
          have hA := HA.out
          have hC := HC.out
          have hAC : ¬ W1.heap.size = W8.heap.size := fun h => by rw [h, hC] at hA; simp at hA
          have HP := hide (put5Q hA (.int .i64 Y.k) (.string Y.t) (.slice b1 Y.l.length e1) (.slice b2 Y.p.length e2) (.slice b3 Y.s.length e3))
          have m0 : W9.cell? ⟨W1.heap.size, 0, none⟩ = some (.int .i64 0) := by simp [World.cell?, hA]
          have n0 : W9.frozen? ⟨W1.heap.size, 0, none⟩ = false := by simp [World.frozen?, hA]
          have m1 : W9.cell? ⟨W1.heap.size, 1, none⟩ = some (.string ⟨#[]⟩) := by simp [World.cell?, hA]
          have n1 : W9.frozen? ⟨W1.heap.size, 1, none⟩ = false := by simp [World.frozen?, hA]
          have m2 : W9.cell? ⟨W1.heap.size, 2, none⟩ = some (.slice none 0 0) := by simp [World.cell?, hA]
          have n2 : W9.frozen? ⟨W1.heap.size, 2, none⟩ = false := by simp [World.frozen?, hA]
          have m3 : W9.cell? ⟨W1.heap.size, 3, none⟩ = some (.slice none 0 0) := by simp [World.cell?, hA]
          have n3 : W9.frozen? ⟨W1.heap.size, 3, none⟩ = false := by simp [World.frozen?, hA]
          have m4 : W9.cell? ⟨W1.heap.size, 4, none⟩ = some (.slice none 0 0) := by simp [World.cell?, hA]
          have n4 : W9.frozen? ⟨W1.heap.size, 4, none⟩ = false := by simp [World.frozen?, hA]
          have HL0 : Hid (w.heap.size < W1.heap.size ∧ w.heap.size < W8.heap.size) := ⟨HGA.out, HGC.out⟩
          clear hA hC
          refine wpAnyH_ready (rs := [15]) (by kernel_rfl) (by simp) ?_
          refine AllReadyH.cons rfl (fun K hK => ?_) (AllReadyH.nil)
          · go_simp
            obtain ⟨hH, hKp⟩ := HP.out
            generalize (((((W9.setCell ⟨W1.heap.size, 0, none⟩ (.int .i64 Y.k)).setCell ⟨W1.heap.size, 1, none⟩ (.string Y.t)).setCell ⟨W1.heap.size, 2, none⟩ (.slice b1 Y.l.length e1)).setCell ⟨W1.heap.size, 3, none⟩ (.slice b2 Y.p.length e2)).setCell ⟨W1.heap.size, 4, none⟩ (.slice b3 Y.s.length e3)) = WA at *
            have HB2 : Hid (Below w.heap.size w WA) := HB.out.trans (hKp.below (B := w.heap.size) (by have := HB.out.size; omega) (fun k hk => by simp only [one] at hk; have := HL0.out; omega))
            have hCC := (hKp.block _ (Array.getElem?_eq_some_iff.1 HC.out).1 (by simp only [one]; omega)).trans HC.out
            have hRR := (hKp.block _ (Array.getElem?_eq_some_iff.1 HR.out).1 (by simp only [one]; have := HL0.out; omega)).trans HR.out
            have HK1 := hide hKp
            have HAA := hide hH
            refine hK.out _ _ (HX.out _ HB2.out) (fun hHeld2 => ?_)
            clear hK K m0 m1 m2 m3 m4 n0 n1 n2 n3 n4 hH hKp
            have HQ := hide (put4R hCC (.int .i64 rk) (.string rt) (.int .i64 rn) (.slice none 0 0))
            have m0 : WA.cell? ⟨W8.heap.size, 0, none⟩ = some (.int .i64 0) := by simp [World.cell?, hCC]
            have n0 : WA.frozen? ⟨W8.heap.size, 0, none⟩ = false := by simp [World.frozen?, hCC]
            have m1 : WA.cell? ⟨W8.heap.size, 1, none⟩ = some (.string ⟨#[]⟩) := by simp [World.cell?, hCC]
            have n1 : WA.frozen? ⟨W8.heap.size, 1, none⟩ = false := by simp [World.frozen?, hCC]
            have m2 : WA.cell? ⟨W8.heap.size, 2, none⟩ = some (.int .i64 0) := by simp [World.cell?, hCC]
            have n2 : WA.frozen? ⟨W8.heap.size, 2, none⟩ = false := by simp [World.frozen?, hCC]
            have m3 : WA.cell? ⟨W8.heap.size, 3, none⟩ = some (.slice none 0 0) := by simp [World.cell?, hCC]
            have n3 : WA.frozen? ⟨W8.heap.size, 3, none⟩ = false := by simp [World.frozen?, hCC]
            have HRR := hide hRR
            clear hCC hRR
            refine wpAnyH_ready (rs := [16]) (by kernel_rfl) (by simp) ?_
            refine AllReadyH.cons rfl (fun K hK => ?_) (AllReadyH.nil)
            · go_simp
              obtain ⟨hH, hKp⟩ := HQ.out
              generalize ((((WA.setCell ⟨W8.heap.size, 0, none⟩ (.int .i64 rk)).setCell ⟨W8.heap.size, 1, none⟩ (.string rt)).setCell ⟨W8.heap.size, 2, none⟩ (.int .i64 rn)).setCell ⟨W8.heap.size, 3, none⟩ (.slice none 0 0)) = WB at *
              have HB3 : Hid (Below w.heap.size w WB) := HB2.out.trans (hKp.below (B := w.heap.size) (by have := HB2.out.size; omega) (fun k hk => by simp only [one] at hk; have := HL0.out; omega))
              refine hK.out _ _ (HX.out _ HB3.out) (fun hHeld3 => ?_)
              clear hK K m0 m1 m2 m3 n0 n1 n2 n3
              refine wpAnyH_take (i := 17) (v := .int .i64 E) rfl (by kernel_rfl) (by kernel_rfl) (by kernel_rfl) (fun _ _ _ h => h) (Or.inl ⟨by kernel_rfl, by intro w hSw; (try dsimp only at hSw); go_simp⟩) (by assumption) ?_
              refine wpAnyH_done (by kernel_rfl) ?_ _
              refine HT.out HB3.out ((hKp.block _ (Array.getElem?_eq_some_iff.1 HRR.out).1 (by simp only [one]; have := HL0.out; omega)).trans HRR.out) ((hKp.block _ (Array.getElem?_eq_some_iff.1 HAA.out).1 (by simp only [one]; omega)).trans HAA.out) hH (HYY.out WB (fun k h1 h2 h3 => (hKp.block k (Nat.lt_of_lt_of_le h1 HK1.out.size) (by simp only [one]; omega)).trans (HK1.out.block k h1 (by simp only [one]; omega)))) HL0.out.1 HL0.out.2
      · go_simp
        have HGC : Hid (w.heap.size < W7.heap.size) := (Array.getElem?_eq_some_iff.1 HR.out).1
        obtain ⟨W10, hW, hb, hN⟩ : ∃ V', W7.alloc (.cells #[.int .i64 0, .string ⟨#[]⟩, .int .i64 0, .slice none 0 0] 27) = V' ∧ Below W7.heap.size W7 V' ∧ V'.heap[W7.heap.size]? = some (.cells #[.int .i64 0, .string ⟨#[]⟩, .int .i64 0, .slice none 0 0] 27 (0, 0)) := ⟨_, rfl, (Below.refl _ W7).alloc (Nat.le_refl _) _, by show (W7.heap.push _)[W7.heap.size]? = _; simp⟩
        rw [hW]
        have HC2 := hide hN
        have HR2 := hide ((hb.block _ (Array.getElem?_eq_some_iff.1 HR.out).1).trans HR.out)
        have HB2 : Hid (Below w.heap.size w W10) := HB.out.trans (hb.mono HB.out.size)
        have HA2 := hide ((hb.block _ (Array.getElem?_eq_some_iff.1 HA.out).1).trans HA.out)
        have HV2 := hide (HV.out.below hb)
        clear hb hN hW hHeld
        refine hK.out _ _ (HX.out _ HB2.out) (fun hHeld => ?_)
        clear hK K
        replace HR := HR2
        replace HB := HB2
        clear HR2 HB2
        replace HA := HA2
        clear HA2
        have HC := HC2
        clear HC2
        replace HV := HV2
        clear HV2
        refine wpAnyH_ready (rs := [8]) (by kernel_rfl) (by simp) ?_
        refine AllReadyH.cons rfl (fun K hK => ?_) (AllReadyH.nil)
        · go_simp
          refine (HFF.out _ _ HB.out HV.out).mono ?_
          rintro e W11 ⟨⟨u, rfl, hy⟩, hb⟩
          obtain ⟨b1, e1, b2, e2, b3, e3, rfl⟩ := shapeE hy.at
          have HY : Hid (ItFrom W10.heap.size W11 _ Y) := hy
          have HLA : Hid (W10.heap.size ≤ W11.heap.size) := hb.size
          have HLB : Hid (W1.heap.size < W10.heap.size) := (Array.getElem?_eq_some_iff.1 HA.out).1
          have HLC : Hid (W7.heap.size < W10.heap.size) := (Array.getElem?_eq_some_iff.1 HC.out).1
          have HR2 := hide ((hb.block _ (Array.getElem?_eq_some_iff.1 HR.out).1).trans HR.out)
          have HB2 : Hid (Below w.heap.size w W11) := HB.out.trans (hb.mono HB.out.size)
          have HA2 := hide ((hb.block _ (Array.getElem?_eq_some_iff.1 HA.out).1).trans HA.out)
          have HC2 := hide ((hb.block _ (Array.getElem?_eq_some_iff.1 HC.out).1).trans HC.out)
          clear hb hy hHeld HV
          refine hK.out _ _ (HX.out _ HB2.out) (fun hHeld => ?_)
          clear hK K
          replace HR := HR2
          replace HB := HB2
          clear HR2 HB2
          replace HA := HA2
          clear HA2
          replace HC := HC2
          clear HC2
          refine wpAnyH_take (i := 9) (v := .tuple #[.agg #[.int .i64 Y.k, .string Y.t, .slice b1 Y.l.length e1, .slice b2 Y.p.length e2, .slice b3 Y.s.length e3], .agg #[.int .i64 rk, .string rt, .int .i64 rn, .slice none 0 0], .int .i64 E]) rfl (by kernel_rfl) (by kernel_rfl) (by kernel_rfl) (fun _ _ _ h => h) (Or.inl ⟨by kernel_rfl, by intro w hSw; (try dsimp only at hSw); go_simp⟩) (by assumption) ?_
          refine wpAnyH_take (i := 10) (v := .agg #[.int .i64 Y.k, .string Y.t, .slice b1 Y.l.length e1, .slice b2 Y.p.length e2, .slice b3 Y.s.length e3]) rfl (by kernel_rfl) (by kernel_rfl) (by kernel_rfl) (fun _ _ _ h => h) (Or.inl ⟨by kernel_rfl, by intro w hSw; (try dsimp only at hSw); go_simp⟩) (by assumption) ?_
          refine wpAnyH_take (i := 11) (v := .agg #[.int .i64 rk, .string rt, .int .i64 rn, .slice none 0 0]) rfl (by kernel_rfl) (by kernel_rfl) (by kernel_rfl) (fun _ _ _ h => h) (Or.inl ⟨by kernel_rfl, by intro w hSw; (try dsimp only at hSw); go_simp⟩) (by assumption) ?_
          refine wpAnyH_take (i := 12) (v := .int .i64 E) rfl (by kernel_rfl) (by kernel_rfl) (by kernel_rfl) (fun _ _ _ h => h) (Or.inl ⟨by kernel_rfl, by intro w hSw; (try dsimp only at hSw); go_simp⟩) (by assumption) ?_
          have HYY : Hid (∀ w', (∀ k, k < W11.heap.size → k ≠ W1.heap.size → k ≠ W7.heap.size → w'.heap[k]? = W11.heap[k]?) → ItemIs w' (.agg #[.int .i64 Y.k, .string Y.t, .slice b1 Y.l.length e1, .slice b2 Y.p.length e2, .slice b3 Y.s.length e3]) Y) := fun w' hag => HY.out w' (fun k h1 h2 => hag k h2 (by have := HLB.out; omega) (by have := HLC.out; omega))
          clear HY HLA HLB HLC
          have hA := HA.out
          have hC := HC.out
          have hAC : ¬ W1.heap.size = W7.heap.size := fun h => by rw [h, hC] at hA; simp at hA
          have HP := hide (put5Q hA (.int .i64 Y.k) (.string Y.t) (.slice b1 Y.l.length e1) (.slice b2 Y.p.length e2) (.slice b3 Y.s.length e3))
          have m0 : W11.cell? ⟨W1.heap.size, 0, none⟩ = some (.int .i64 0) := by simp [World.cell?, hA]
          have n0 : W11.frozen? ⟨W1.heap.size, 0, none⟩ = false := by simp [World.frozen?, hA]
          have m1 : W11.cell? ⟨W1.heap.size, 1, none⟩ = some (.string ⟨#[]⟩) := by simp [World.cell?, hA]
          have n1 : W11.frozen? ⟨W1.heap.size, 1, none⟩ = false := by simp [World.frozen?, hA]
          have m2 : W11.cell? ⟨W1.heap.size, 2, none⟩ = some (.slice none 0 0) := by simp [World.cell?, hA]
          have n2 : W11.frozen? ⟨W1.heap.size, 2, none⟩ = false := by simp [World.frozen?, hA]
          have m3 : W11.cell? ⟨W1.heap.size, 3, none⟩ = some (.slice none 0 0) := by simp [World.cell?, hA]
          have n3 : W11.frozen? ⟨W1.heap.size, 3, none⟩ = false := by simp [World.frozen?, hA]
          have m4 : W11.cell? ⟨W1.heap.size, 4, none⟩ = some (.slice none 0 0) := by simp [World.cell?, hA]
          have n4 : W11.frozen? ⟨W1.heap.size, 4, none⟩ = false := by simp [World.frozen?, hA]
          have HL0 : Hid (w.heap.size < W1.heap.size ∧ w.heap.size < W7.heap.size) := ⟨HGA.out, HGC.out⟩
          clear hA hC
          refine wpAnyH_ready (rs := [15]) (by kernel_rfl) (by simp) ?_
          refine AllReadyH.cons rfl (fun K hK => ?_) (AllReadyH.nil)
          · go_simp
            obtain ⟨hH, hKp⟩ := HP.out
            generalize (((((W11.setCell ⟨W1.heap.size, 0, none⟩ (.int .i64 Y.k)).setCell ⟨W1.heap.size, 1, none⟩ (.string Y.t)).setCell ⟨W1.heap.size, 2, none⟩ (.slice b1 Y.l.length e1)).setCell ⟨W1.heap.size, 3, none⟩ (.slice b2 Y.p.length e2)).setCell ⟨W1.heap.size, 4, none⟩ (.slice b3 Y.s.length e3)) = WA at *
            have HB2 : Hid (Below w.heap.size w WA) := HB.out.trans (hKp.below (B := w.heap.size) (by have := HB.out.size; omega) (fun k hk => by simp only [one] at hk; have := HL0.out; omega))
            have hCC := (hKp.block _ (Array.getElem?_eq_some_iff.1 HC.out).1 (by simp only [one]; omega)).trans HC.out
            have hRR := (hKp.block _ (Array.getElem?_eq_some_iff.1 HR.out).1 (by simp only [one]; have := HL0.out; omega)).trans HR.out
            have HK1 := hide hKp
            have HAA := hide hH
            refine hK.out _ _ (HX.out _ HB2.out) (fun hHeld2 => ?_)
            clear hK K m0 m1 m2 m3 m4 n0 n1 n2 n3 n4 hH hKp
            have HQ := hide (put4R hCC (.int .i64 rk) (.string rt) (.int .i64 rn) (.slice none 0 0))
            have m0 : WA.cell? ⟨W7.heap.size, 0, none⟩ = some (.int .i64 0) := by simp [World.cell?, hCC]
            have n0 : WA.frozen? ⟨W7.heap.size, 0, none⟩ = false := by simp [World.frozen?, hCC]
            have m1 : WA.cell? ⟨W7.heap.size, 1, none⟩ = some (.string ⟨#[]⟩) := by simp [World.cell?, hCC]
            have n1 : WA.frozen? ⟨W7.heap.size, 1, none⟩ = false := by simp [World.frozen?, hCC]
            have m2 : WA.cell? ⟨W7.heap.size, 2, none⟩ = some (.int .i64 0) := by simp [World.cell?, hCC]
            have n2 : WA.frozen? ⟨W7.heap.size, 2, none⟩ = false := by simp [World.frozen?, hCC]
            have m3 : WA.cell? ⟨W7.heap.size, 3, none⟩ = some (.slice none 0 0) := by simp [World.cell?, hCC]
            have n3 : WA.frozen? ⟨W7.heap.size, 3, none⟩ = false := by simp [World.frozen?, hCC]
            have HRR := hide hRR
            clear hCC hRR
            refine wpAnyH_ready (rs := [16]) (by kernel_rfl) (by simp) ?_
            refine AllReadyH.cons rfl (fun K hK => ?_) (AllReadyH.nil)
            · go_simp
              obtain ⟨hH, hKp⟩ := HQ.out
              generalize ((((WA.setCell ⟨W7.heap.size, 0, none⟩ (.int .i64 rk)).setCell ⟨W7.heap.size, 1, none⟩ (.string rt)).setCell ⟨W7.heap.size, 2, none⟩ (.int .i64 rn)).setCell ⟨W7.heap.size, 3, none⟩ (.slice none 0 0)) = WB at *
              have HB3 : Hid (Below w.heap.size w WB) := HB2.out.trans (hKp.below (B := w.heap.size) (by have := HB2.out.size; omega) (fun k hk => by simp only [one] at hk; have := HL0.out; omega))
              refine hK.out _ _ (HX.out _ HB3.out) (fun hHeld3 => ?_)
              clear hK K m0 m1 m2 m3 n0 n1 n2 n3
              refine wpAnyH_take (i := 17) (v := .int .i64 E) rfl (by kernel_rfl) (by kernel_rfl) (by kernel_rfl) (fun _ _ _ h => h) (Or.inl ⟨by kernel_rfl, by intro w hSw; (try dsimp only at hSw); go_simp⟩) (by assumption) ?_
              refine wpAnyH_done (by kernel_rfl) ?_ _
              refine HT.out HB3.out ((hKp.block _ (Array.getElem?_eq_some_iff.1 HRR.out).1 (by simp only [one]; have := HL0.out; omega)).trans HRR.out) ((hKp.block _ (Array.getElem?_eq_some_iff.1 HAA.out).1 (by simp only [one]; omega)).trans HAA.out) hH (HYY.out WB (fun k h1 h2 h3 => (hKp.block k (Nat.lt_of_lt_of_le h1 HK1.out.size) (by simp only [one]; omega)).trans (HK1.out.block k h1 (by simp only [one]; omega)))) HL0.out.1 HL0.out.2
    · go_simp
      have HGC : Hid (w.heap.size < W1.heap.size) := (Array.getElem?_eq_some_iff.1 HR.out).1
      obtain ⟨W12, hW, hb, hN⟩ : ∃ V', W1.alloc (.cells #[.int .i64 0, .string ⟨#[]⟩, .int .i64 0, .slice none 0 0] 27) = V' ∧ Below W1.heap.size W1 V' ∧ V'.heap[W1.heap.size]? = some (.cells #[.int .i64 0, .string ⟨#[]⟩, .int .i64 0, .slice none 0 0] 27 (0, 0)) := ⟨_, rfl, (Below.refl _ W1).alloc (Nat.le_refl _) _, by show (W1.heap.push _)[W1.heap.size]? = _; simp⟩
      rw [hW]
      have HC2 := hide hN
      have HR2 := hide ((hb.block _ (Array.getElem?_eq_some_iff.1 HR.out).1).trans HR.out)
      have HB2 : Hid (Below w.heap.size w W12) := HB.out.trans (hb.mono HB.out.size)
      have HV2 := hide (HV.out.below hb)
      clear hb hN hW hHeld
      refine hK.out _ _ (HX.out _ HB2.out) (fun hHeld => ?_)
      clear hK K
      replace HR := HR2
      replace HB := HB2
      clear HR2 HB2
      have HC := HC2
      clear HC2
      replace HV := HV2
      clear HV2
      refine wpAnyH_ready (rs := [8, 13]) (by kernel_rfl) (by simp) ?_
      refine AllReadyH.cons rfl (fun K hK => ?_) (AllReadyH.cons rfl (fun K hK => ?_) (AllReadyH.nil))
      · go_simp
        refine (HFF.out _ _ HB.out HV.out).mono ?_
        rintro e W13 ⟨⟨u, rfl, hy⟩, hb⟩
        obtain ⟨b1, e1, b2, e2, b3, e3, rfl⟩ := shapeE hy.at
        have HY : Hid (ItFrom W12.heap.size W13 _ Y) := hy
        have HLA : Hid (W12.heap.size ≤ W13.heap.size) := hb.size
        have HLC : Hid (W1.heap.size < W12.heap.size) := (Array.getElem?_eq_some_iff.1 HC.out).1
        have HR2 := hide ((hb.block _ (Array.getElem?_eq_some_iff.1 HR.out).1).trans HR.out)
        have HB2 : Hid (Below w.heap.size w W13) := HB.out.trans (hb.mono HB.out.size)
        have HC2 := hide ((hb.block _ (Array.getElem?_eq_some_iff.1 HC.out).1).trans HC.out)
        clear hb hy hHeld HV
        refine hK.out _ _ (HX.out _ HB2.out) (fun hHeld => ?_)
        clear hK K
        replace HR := HR2
        replace HB := HB2
        clear HR2 HB2
        replace HC := HC2
        clear HC2
        refine wpAnyH_take (i := 9) (v := .tuple #[.agg #[.int .i64 Y.k, .string Y.t, .slice b1 Y.l.length e1, .slice b2 Y.p.length e2, .slice b3 Y.s.length e3], .agg #[.int .i64 rk, .string rt, .int .i64 rn, .slice none 0 0], .int .i64 E]) rfl (by kernel_rfl) (by kernel_rfl) (by kernel_rfl) (fun _ _ _ h => h) (Or.inl ⟨by kernel_rfl, by intro w hSw; (try dsimp only at hSw); go_simp⟩) (by assumption) ?_
        refine wpAnyH_take (i := 10) (v := .agg #[.int .i64 Y.k, .string Y.t, .slice b1 Y.l.length e1, .slice b2 Y.p.length e2, .slice b3 Y.s.length e3]) rfl (by kernel_rfl) (by kernel_rfl) (by kernel_rfl) (fun _ _ _ h => h) (Or.inl ⟨by kernel_rfl, by intro w hSw; (try dsimp only at hSw); go_simp⟩) (by assumption) ?_
        refine wpAnyH_take (i := 11) (v := .agg #[.int .i64 rk, .string rt, .int .i64 rn, .slice none 0 0]) rfl (by kernel_rfl) (by kernel_rfl) (by kernel_rfl) (fun _ _ _ h => h) (Or.inl ⟨by kernel_rfl, by intro w hSw; (try dsimp only at hSw); go_simp⟩) (by assumption) ?_
        refine wpAnyH_take (i := 12) (v := .int .i64 E) rfl (by kernel_rfl) (by kernel_rfl) (by kernel_rfl) (fun _ _ _ h => h) (Or.inl ⟨by kernel_rfl, by intro w hSw; (try dsimp only at hSw); go_simp⟩) (by assumption) ?_
        have HYY : Hid (∀ w', (∀ k, k < W13.heap.size → k ≠ W1.heap.size → w'.heap[k]? = W13.heap[k]?) → ItemIs w' (.agg #[.int .i64 Y.k, .string Y.t, .slice b1 Y.l.length e1, .slice b2 Y.p.length e2, .slice b3 Y.s.length e3]) Y) := fun w' hag => HY.out w' (fun k h1 h2 => hag k h2 (by have := HLC.out; omega))
        clear HY HLA HLC
        refine wpAnyH_ready (rs := [13]) (by kernel_rfl) (by simp) ?_
        refine AllReadyH.cons rfl (fun K hK => ?_) (AllReadyH.nil)
        · go_simp
          have HGA : Hid (w.heap.size < W13.heap.size) := (Array.getElem?_eq_some_iff.1 HR.out).1
          obtain ⟨W14, hW, hb, hN⟩ : ∃ V', W13.alloc (.cells #[.int .i64 0, .string ⟨#[]⟩, .slice none 0 0, .slice none 0 0, .slice none 0 0] 40) = V' ∧ Below W13.heap.size W13 V' ∧ V'.heap[W13.heap.size]? = some (.cells #[.int .i64 0, .string ⟨#[]⟩, .slice none 0 0, .slice none 0 0, .slice none 0 0] 40 (0, 0)) := ⟨_, rfl, (Below.refl _ W13).alloc (Nat.le_refl _) _, by show (W13.heap.push _)[W13.heap.size]? = _; simp⟩
          rw [hW]
          have HA2 := hide hN
          have HR2 := hide ((hb.block _ (Array.getElem?_eq_some_iff.1 HR.out).1).trans HR.out)
          have HB2 : Hid (Below w.heap.size w W14) := HB.out.trans (hb.mono HB.out.size)
          have HC2 := hide ((hb.block _ (Array.getElem?_eq_some_iff.1 HC.out).1).trans HC.out)
          have HYY2 : Hid (∀ w', (∀ k, k < W14.heap.size → k ≠ W13.heap.size → k ≠ W1.heap.size → w'.heap[k]? = W14.heap[k]?) → ItemIs w' (.agg #[.int .i64 Y.k, .string Y.t, .slice b1 Y.l.length e1, .slice b2 Y.p.length e2, .slice b3 Y.s.length e3]) Y) := fun w' hag => HYY.out w' (fun k h1 hC => (hag k (Nat.lt_of_lt_of_le h1 hb.size) (by omega) hC).trans (hb.block k h1))
          clear hb hN hW hHeld
          refine hK.out _ _ (HX.out _ HB2.out) (fun hHeld => ?_)
          clear hK K
          replace HR := HR2
          replace HB := HB2
          clear HR2 HB2
          have HA := HA2
          clear HA2
          replace HC := HC2
          clear HC2
          replace HYY := HYY2
          clear HYY2
          have hA := HA.out
          have hC := HC.out
          have hAC : ¬ W13.heap.size = W1.heap.size := fun h => by rw [h, hC] at hA; simp at hA
          have HP := hide (put5Q hA (.int .i64 Y.k) (.string Y.t) (.slice b1 Y.l.length e1) (.slice b2 Y.p.length e2) (.slice b3 Y.s.length e3))
          have m0 : W14.cell? ⟨W13.heap.size, 0, none⟩ = some (.int .i64 0) := by simp [World.cell?, hA]
          have n0 : W14.frozen? ⟨W13.heap.size, 0, none⟩ = false := by simp [World.frozen?, hA]
          have m1 : W14.cell? ⟨W13.heap.size, 1, none⟩ = some (.string ⟨#[]⟩) := by simp [World.cell?, hA]
          have n1 : W14.frozen? ⟨W13.heap.size, 1, none⟩ = false := by simp [World.frozen?, hA]
          have m2 : W14.cell? ⟨W13.heap.size, 2, none⟩ = some (.slice none 0 0) := by simp [World.cell?, hA]
          have n2 : W14.frozen? ⟨W13.heap.size, 2, none⟩ = false := by simp [World.frozen?, hA]
          have m3 : W14.cell? ⟨W13.heap.size, 3, none⟩ = some (.slice none 0 0) := by simp [World.cell?, hA]
          have n3 : W14.frozen? ⟨W13.heap.size, 3, none⟩ = false := by simp [World.frozen?, hA]
          have m4 : W14.cell? ⟨W13.heap.size, 4, none⟩ = some (.slice none 0 0) := by simp [World.cell?, hA]
          have n4 : W14.frozen? ⟨W13.heap.size, 4, none⟩ = false := by simp [World.frozen?, hA]
          have HL0 : Hid (w.heap.size < W13.heap.size ∧ w.heap.size < W1.heap.size) := ⟨HGA.out, HGC.out⟩
          clear hA hC
          refine wpAnyH_ready (rs := [15]) (by kernel_rfl) (by simp) ?_
          refine AllReadyH.cons rfl (fun K hK => ?_) (AllReadyH.nil)
          · go_simp
            obtain ⟨hH, hKp⟩ := HP.out
            generalize (((((W14.setCell ⟨W13.heap.size, 0, none⟩ (.int .i64 Y.k)).setCell ⟨W13.heap.size, 1, none⟩ (.string Y.t)).setCell ⟨W13.heap.size, 2, none⟩ (.slice b1 Y.l.length e1)).setCell ⟨W13.heap.size, 3, none⟩ (.slice b2 Y.p.length e2)).setCell ⟨W13.heap.size, 4, none⟩ (.slice b3 Y.s.length e3)) = WA at *
            have HB2 : Hid (Below w.heap.size w WA) := HB.out.trans (hKp.below (B := w.heap.size) (by have := HB.out.size; omega) (fun k hk => by simp only [one] at hk; have := HL0.out; omega))
            have hCC := (hKp.block _ (Array.getElem?_eq_some_iff.1 HC.out).1 (by simp only [one]; omega)).trans HC.out
            have hRR := (hKp.block _ (Array.getElem?_eq_some_iff.1 HR.out).1 (by simp only [one]; have := HL0.out; omega)).trans HR.out
            have HK1 := hide hKp
            have HAA := hide hH
            refine hK.out _ _ (HX.out _ HB2.out) (fun hHeld2 => ?_)
            clear hK K m0 m1 m2 m3 m4 n0 n1 n2 n3 n4 hH hKp
            have HQ := hide (put4R hCC (.int .i64 rk) (.string rt) (.int .i64 rn) (.slice none 0 0))
            have m0 : WA.cell? ⟨W1.heap.size, 0, none⟩ = some (.int .i64 0) := by simp [World.cell?, hCC]
            have n0 : WA.frozen? ⟨W1.heap.size, 0, none⟩ = false := by simp [World.frozen?, hCC]
            have m1 : WA.cell? ⟨W1.heap.size, 1, none⟩ = some (.string ⟨#[]⟩) := by simp [World.cell?, hCC]
            have n1 : WA.frozen? ⟨W1.heap.size, 1, none⟩ = false := by simp [World.frozen?, hCC]
            have m2 : WA.cell? ⟨W1.heap.size, 2, none⟩ = some (.int .i64 0) := by simp [World.cell?, hCC]
            have n2 : WA.frozen? ⟨W1.heap.size, 2, none⟩ = false := by simp [World.frozen?, hCC]
            have m3 : WA.cell? ⟨W1.heap.size, 3, none⟩ = some (.slice none 0 0) := by simp [World.cell?, hCC]
            have n3 : WA.frozen? ⟨W1.heap.size, 3, none⟩ = false := by simp [World.frozen?, hCC]
            have HRR := hide hRR
            clear hCC hRR
            refine wpAnyH_ready (rs := [16]) (by kernel_rfl) (by simp) ?_
            refine AllReadyH.cons rfl (fun K hK => ?_) (AllReadyH.nil)
            · go_simp
              obtain ⟨hH, hKp⟩ := HQ.out
              generalize ((((WA.setCell ⟨W1.heap.size, 0, none⟩ (.int .i64 rk)).setCell ⟨W1.heap.size, 1, none⟩ (.string rt)).setCell ⟨W1.heap.size, 2, none⟩ (.int .i64 rn)).setCell ⟨W1.heap.size, 3, none⟩ (.slice none 0 0)) = WB at *
              have HB3 : Hid (Below w.heap.size w WB) := HB2.out.trans (hKp.below (B := w.heap.size) (by have := HB2.out.size; omega) (fun k hk => by simp only [one] at hk; have := HL0.out; omega))
              refine hK.out _ _ (HX.out _ HB3.out) (fun hHeld3 => ?_)
              clear hK K m0 m1 m2 m3 n0 n1 n2 n3
              refine wpAnyH_take (i := 17) (v := .int .i64 E) rfl (by kernel_rfl) (by kernel_rfl) (by kernel_rfl) (fun _ _ _ h => h) (Or.inl ⟨by kernel_rfl, by intro w hSw; (try dsimp only at hSw); go_simp⟩) (by assumption) ?_
              refine wpAnyH_done (by kernel_rfl) ?_ _
              refine HT.out HB3.out ((hKp.block _ (Array.getElem?_eq_some_iff.1 HRR.out).1 (by simp only [one]; have := HL0.out; omega)).trans HRR.out) ((hKp.block _ (Array.getElem?_eq_some_iff.1 HAA.out).1 (by simp only [one]; omega)).trans HAA.out) hH (HYY.out WB (fun k h1 h2 h3 => (hKp.block k (Nat.lt_of_lt_of_le h1 HK1.out.size) (by simp only [one]; omega)).trans (HK1.out.block k h1 (by simp only [one]; omega)))) HL0.out.1 HL0.out.2
      · go_simp
        have HGA : Hid (w.heap.size < W12.heap.size) := (Array.getElem?_eq_some_iff.1 HR.out).1
        obtain ⟨W15, hW, hb, hN⟩ : ∃ V', W12.alloc (.cells #[.int .i64 0, .string ⟨#[]⟩, .slice none 0 0, .slice none 0 0, .slice none 0 0] 40) = V' ∧ Below W12.heap.size W12 V' ∧ V'.heap[W12.heap.size]? = some (.cells #[.int .i64 0, .string ⟨#[]⟩, .slice none 0 0, .slice none 0 0, .slice none 0 0] 40 (0, 0)) := ⟨_, rfl, (Below.refl _ W12).alloc (Nat.le_refl _) _, by show (W12.heap.push _)[W12.heap.size]? = _; simp⟩
        rw [hW]
        have HA2 := hide hN
        have HR2 := hide ((hb.block _ (Array.getElem?_eq_some_iff.1 HR.out).1).trans HR.out)
        have HB2 : Hid (Below w.heap.size w W15) := HB.out.trans (hb.mono HB.out.size)
        have HC2 := hide ((hb.block _ (Array.getElem?_eq_some_iff.1 HC.out).1).trans HC.out)
        have HV2 := hide (HV.out.below hb)
        clear hb hN hW hHeld
        refine hK.out _ _ (HX.out _ HB2.out) (fun hHeld => ?_)
        clear hK K
        replace HR := HR2
        replace HB := HB2
        clear HR2 HB2
        have HA := HA2
        clear HA2
        replace HC := HC2
        clear HC2
        replace HV := HV2
        clear HV2
        refine wpAnyH_ready (rs := [8]) (by kernel_rfl) (by simp) ?_
        refine AllReadyH.cons rfl (fun K hK => ?_) (AllReadyH.nil)
        · go_simp
          refine (HFF.out _ _ HB.out HV.out).mono ?_
          rintro e W16 ⟨⟨u, rfl, hy⟩, hb⟩
          obtain ⟨b1, e1, b2, e2, b3, e3, rfl⟩ := shapeE hy.at
          have HY : Hid (ItFrom W15.heap.size W16 _ Y) := hy
          have HLA : Hid (W15.heap.size ≤ W16.heap.size) := hb.size
          have HLB : Hid (W12.heap.size < W15.heap.size) := (Array.getElem?_eq_some_iff.1 HA.out).1
          have HLC : Hid (W1.heap.size < W15.heap.size) := (Array.getElem?_eq_some_iff.1 HC.out).1
          have HR2 := hide ((hb.block _ (Array.getElem?_eq_some_iff.1 HR.out).1).trans HR.out)
          have HB2 : Hid (Below w.heap.size w W16) := HB.out.trans (hb.mono HB.out.size)
          have HA2 := hide ((hb.block _ (Array.getElem?_eq_some_iff.1 HA.out).1).trans HA.out)
          have HC2 := hide ((hb.block _ (Array.getElem?_eq_some_iff.1 HC.out).1).trans HC.out)
          clear hb hy hHeld HV
          refine hK.out _ _ (HX.out _ HB2.out) (fun hHeld => ?_)
          clear hK K
          replace HR := HR2
          replace HB := HB2
          clear HR2 HB2
          replace HA := HA2
          clear HA2
          replace HC := HC2
          clear HC2
          refine wpAnyH_take (i := 9) (v := .tuple #[.agg #[.int .i64 Y.k, .string Y.t, .slice b1 Y.l.length e1, .slice b2 Y.p.length e2, .slice b3 Y.s.length e3], .agg #[.int .i64 rk, .string rt, .int .i64 rn, .slice none 0 0], .int .i64 E]) rfl (by kernel_rfl) (by kernel_rfl) (by kernel_rfl) (fun _ _ _ h => h) (Or.inl ⟨by kernel_rfl, by intro w hSw; (try dsimp only at hSw); go_simp⟩) (by assumption) ?_
          refine wpAnyH_take (i := 10) (v := .agg #[.int .i64 Y.k, .string Y.t, .slice b1 Y.l.length e1, .slice b2 Y.p.length e2, .slice b3 Y.s.length e3]) rfl (by kernel_rfl) (by kernel_rfl) (by kernel_rfl) (fun _ _ _ h => h) (Or.inl ⟨by kernel_rfl, by intro w hSw; (try dsimp only at hSw); go_simp⟩) (by assumption) ?_
          refine wpAnyH_take (i := 11) (v := .agg #[.int .i64 rk, .string rt, .int .i64 rn, .slice none 0 0]) rfl (by kernel_rfl) (by kernel_rfl) (by kernel_rfl) (fun _ _ _ h => h) (Or.inl ⟨by kernel_rfl, by intro w hSw; (try dsimp only at hSw); go_simp⟩) (by assumption) ?_
          refine wpAnyH_take (i := 12) (v := .int .i64 E) rfl (by kernel_rfl) (by kernel_rfl) (by kernel_rfl) (fun _ _ _ h => h) (Or.inl ⟨by kernel_rfl, by intro w hSw; (try dsimp only at hSw); go_simp⟩) (by assumption) ?_
          have HYY : Hid (∀ w', (∀ k, k < W16.heap.size → k ≠ W12.heap.size → k ≠ W1.heap.size → w'.heap[k]? = W16.heap[k]?) → ItemIs w' (.agg #[.int .i64 Y.k, .string Y.t, .slice b1 Y.l.length e1, .slice b2 Y.p.length e2, .slice b3 Y.s.length e3]) Y) := fun w' hag => HY.out w' (fun k h1 h2 => hag k h2 (by have := HLB.out; omega) (by have := HLC.out; omega))
          clear HY HLA HLB HLC
          have hA := HA.out
          have hC := HC.out
          have hAC : ¬ W12.heap.size = W1.heap.size := fun h => by rw [h, hC] at hA; simp at hA
          have HP := hide (put5Q hA (.int .i64 Y.k) (.string Y.t) (.slice b1 Y.l.length e1) (.slice b2 Y.p.length e2) (.slice b3 Y.s.length e3))
          have m0 : W16.cell? ⟨W12.heap.size, 0, none⟩ = some (.int .i64 0) := by simp [World.cell?, hA]
          have n0 : W16.frozen? ⟨W12.heap.size, 0, none⟩ = false := by simp [World.frozen?, hA]
          have m1 : W16.cell? ⟨W12.heap.size, 1, none⟩ = some (.string ⟨#[]⟩) := by simp [World.cell?, hA]
          have n1 : W16.frozen? ⟨W12.heap.size, 1, none⟩ = false := by simp [World.frozen?, hA]
          have m2 : W16.cell? ⟨W12.heap.size, 2, none⟩ = some (.slice none 0 0) := by simp [World.cell?, hA]
          have n2 : W16.frozen? ⟨W12.heap.size, 2, none⟩ = false := by simp [World.frozen?, hA]
          have m3 : W16.cell? ⟨W12.heap.size, 3, none⟩ = some (.slice none 0 0) := by simp [World.cell?, hA]
          have n3 : W16.frozen? ⟨W12.heap.size, 3, none⟩ = false := by simp [World.frozen?, hA]
          have m4 : W16.cell? ⟨W12.heap.size, 4, none⟩ = some (.slice none 0 0) := by simp [World.cell?, hA]
          have n4 : W16.frozen? ⟨W12.heap.size, 4, none⟩ = false := by simp [World.frozen?, hA]
          have HL0 : Hid (w.heap.size < W12.heap.size ∧ w.heap.size < W1.heap.size) := ⟨HGA.out, HGC.out⟩
          clear hA hC
          refine wpAnyH_ready (rs := [15]) (by kernel_rfl) (by simp) ?_
          refine AllReadyH.cons rfl (fun K hK => ?_) (AllReadyH.nil)
          · go_simp
            obtain ⟨hH, hKp⟩ := HP.out
            generalize (((((W16.setCell ⟨W12.heap.size, 0, none⟩ (.int .i64 Y.k)).setCell ⟨W12.heap.size, 1, none⟩ (.string Y.t)).setCell ⟨W12.heap.size, 2, none⟩ (.slice b1 Y.l.length e1)).setCell ⟨W12.heap.size, 3, none⟩ (.slice b2 Y.p.length e2)).setCell ⟨W12.heap.size, 4, none⟩ (.slice b3 Y.s.length e3)) = WA at *
            have HB2 : Hid (Below w.heap.size w WA) := HB.out.trans (hKp.below (B := w.heap.size) (by have := HB.out.size; omega) (fun k hk => by simp only [one] at hk; have := HL0.out; omega))
            have hCC := (hKp.block _ (Array.getElem?_eq_some_iff.1 HC.out).1 (by simp only [one]; omega)).trans HC.out
            have hRR := (hKp.block _ (Array.getElem?_eq_some_iff.1 HR.out).1 (by simp only [one]; have := HL0.out; omega)).trans HR.out
            have HK1 := hide hKp
            have HAA := hide hH
            refine hK.out _ _ (HX.out _ HB2.out) (fun hHeld2 => ?_)
            clear hK K m0 m1 m2 m3 m4 n0 n1 n2 n3 n4 hH hKp
            have HQ := hide (put4R hCC (.int .i64 rk) (.string rt) (.int .i64 rn) (.slice none 0 0))
            have m0 : WA.cell? ⟨W1.heap.size, 0, none⟩ = some (.int .i64 0) := by simp [World.cell?, hCC]
            have n0 : WA.frozen? ⟨W1.heap.size, 0, none⟩ = false := by simp [World.frozen?, hCC]
            have m1 : WA.cell? ⟨W1.heap.size, 1, none⟩ = some (.string ⟨#[]⟩) := by simp [World.cell?, hCC]
            have n1 : WA.frozen? ⟨W1.heap.size, 1, none⟩ = false := by simp [World.frozen?, hCC]
            have m2 : WA.cell? ⟨W1.heap.size, 2, none⟩ = some (.int .i64 0) := by simp [World.cell?, hCC]
            have n2 : WA.frozen? ⟨W1.heap.size, 2, none⟩ = false := by simp [World.frozen?, hCC]
            have m3 : WA.cell? ⟨W1.heap.size, 3, none⟩ = some (.slice none 0 0) := by simp [World.cell?, hCC]
            have n3 : WA.frozen? ⟨W1.heap.size, 3, none⟩ = false := by simp [World.frozen?, hCC]
            have HRR := hide hRR
            clear hCC hRR
            refine wpAnyH_ready (rs := [16]) (by kernel_rfl) (by simp) ?_
            refine AllReadyH.cons rfl (fun K hK => ?_) (AllReadyH.nil)
            · go_simp
              obtain ⟨hH, hKp⟩ := HQ.out
              generalize ((((WA.setCell ⟨W1.heap.size, 0, none⟩ (.int .i64 rk)).setCell ⟨W1.heap.size, 1, none⟩ (.string rt)).setCell ⟨W1.heap.size, 2, none⟩ (.int .i64 rn)).setCell ⟨W1.heap.size, 3, none⟩ (.slice none 0 0)) = WB at *
              have HB3 : Hid (Below w.heap.size w WB) := HB2.out.trans (hKp.below (B := w.heap.size) (by have := HB2.out.size; omega) (fun k hk => by simp only [one] at hk; have := HL0.out; omega))
              refine hK.out _ _ (HX.out _ HB3.out) (fun hHeld3 => ?_)
              clear hK K m0 m1 m2 m3 n0 n1 n2 n3
              refine wpAnyH_take (i := 17) (v := .int .i64 E) rfl (by kernel_rfl) (by kernel_rfl) (by kernel_rfl) (fun _ _ _ h => h) (Or.inl ⟨by kernel_rfl, by intro w hSw; (try dsimp only at hSw); go_simp⟩) (by assumption) ?_
              refine wpAnyH_done (by kernel_rfl) ?_ _
              refine HT.out HB3.out ((hKp.block _ (Array.getElem?_eq_some_iff.1 HRR.out).1 (by simp only [one]; have := HL0.out; omega)).trans HRR.out) ((hKp.block _ (Array.getElem?_eq_some_iff.1 HAA.out).1 (by simp only [one]; omega)).trans HAA.out) hH (HYY.out WB (fun k h1 h2 h3 => (hKp.block k (Nat.lt_of_lt_of_le h1 HK1.out.size) (by simp only [one]; omega)).trans (HK1.out.block k h1 (by simp only [one]; omega)))) HL0.out.1 HL0.out.2
  · go_simp
    have HGA : Hid (w.heap.size < W0.heap.size) := (Array.getElem?_eq_some_iff.1 HR.out).1
    obtain ⟨W17, hW, hb, hN⟩ : ∃ V', W0.alloc (.cells #[.int .i64 0, .string ⟨#[]⟩, .slice none 0 0, .slice none 0 0, .slice none 0 0] 40) = V' ∧ Below W0.heap.size W0 V' ∧ V'.heap[W0.heap.size]? = some (.cells #[.int .i64 0, .string ⟨#[]⟩, .slice none 0 0, .slice none 0 0, .slice none 0 0] 40 (0, 0)) := ⟨_, rfl, (Below.refl _ W0).alloc (Nat.le_refl _) _, by show (W0.heap.push _)[W0.heap.size]? = _; simp⟩
    rw [hW]
    have HA2 := hide hN
    have HR2 := hide ((hb.block _ (Array.getElem?_eq_some_iff.1 HR.out).1).trans HR.out)
    have HB2 : Hid (Below w.heap.size w W17) := HB.out.trans (hb.mono HB.out.size)
    clear hb hN hW hHeld
    refine hK.out _ _ (HX.out _ HB2.out) (fun hHeld => ?_)
    clear hK K
    replace HR := HR2
    replace HB := HB2
    clear HR2 HB2
    have HA := HA2
    clear HA2
    refine wpAnyH_ready (rs := [5, 14]) (by kernel_rfl) (by simp) ?_
    refine AllReadyH.cons rfl (fun K hK => ?_) (AllReadyH.cons rfl (fun K hK => ?_) (AllReadyH.nil))
    · go_simp
      refine (HI.out _ HB.out).mono ?_
      rintro e W18 ⟨⟨v, rfl, hi⟩, hb⟩
      obtain ⟨a1, c1, a2, c2, a3, c3, rfl⟩ := shapeE hi
      have HV := hide hi
      have HR2 := hide ((hb.block _ (Array.getElem?_eq_some_iff.1 HR.out).1).trans HR.out)
      have HB2 : Hid (Below w.heap.size w W18) := HB.out.trans (hb.mono HB.out.size)
      have HA2 := hide ((hb.block _ (Array.getElem?_eq_some_iff.1 HA.out).1).trans HA.out)
      clear hb hi hHeld
      refine hK.out _ _ (HX.out _ HB2.out) (fun hHeld => ?_)
      clear hK K
      replace HR := HR2
      replace HB := HB2
      clear HR2 HB2
      replace HA := HA2
      clear HA2
      refine wpAnyH_ready (rs := [8, 14]) (by kernel_rfl) (by simp) ?_
      refine AllReadyH.cons rfl (fun K hK => ?_) (AllReadyH.cons rfl (fun K hK => ?_) (AllReadyH.nil))
      · go_simp
        refine (HFF.out _ _ HB.out HV.out).mono ?_
        rintro e W19 ⟨⟨u, rfl, hy⟩, hb⟩
        obtain ⟨b1, e1, b2, e2, b3, e3, rfl⟩ := shapeE hy.at
        have HY : Hid (ItFrom W18.heap.size W19 _ Y) := hy
        have HLA : Hid (W18.heap.size ≤ W19.heap.size) := hb.size
        have HLB : Hid (W0.heap.size < W18.heap.size) := (Array.getElem?_eq_some_iff.1 HA.out).1
        have HR2 := hide ((hb.block _ (Array.getElem?_eq_some_iff.1 HR.out).1).trans HR.out)
        have HB2 : Hid (Below w.heap.size w W19) := HB.out.trans (hb.mono HB.out.size)
        have HA2 := hide ((hb.block _ (Array.getElem?_eq_some_iff.1 HA.out).1).trans HA.out)
        clear hb hy hHeld HV
        refine hK.out _ _ (HX.out _ HB2.out) (fun hHeld => ?_)
        clear hK K
        replace HR := HR2
        replace HB := HB2
        clear HR2 HB2
        replace HA := HA2
        clear HA2
        refine wpAnyH_take (i := 9) (v := .tuple #[.agg #[.int .i64 Y.k, .string Y.t, .slice b1 Y.l.length e1, .slice b2 Y.p.length e2, .slice b3 Y.s.length e3], .agg #[.int .i64 rk, .string rt, .int .i64 rn, .slice none 0 0], .int .i64 E]) rfl (by kernel_rfl) (by kernel_rfl) (by kernel_rfl) (fun _ _ _ h => h) (Or.inl ⟨by kernel_rfl, by intro w hSw; (try dsimp only at hSw); go_simp⟩) (by assumption) ?_
        refine wpAnyH_take (i := 10) (v := .agg #[.int .i64 Y.k, .string Y.t, .slice b1 Y.l.length e1, .slice b2 Y.p.length e2, .slice b3 Y.s.length e3]) rfl (by kernel_rfl) (by kernel_rfl) (by kernel_rfl) (fun _ _ _ h => h) (Or.inl ⟨by kernel_rfl, by intro w hSw; (try dsimp only at hSw); go_simp⟩) (by assumption) ?_
        refine wpAnyH_take (i := 11) (v := .agg #[.int .i64 rk, .string rt, .int .i64 rn, .slice none 0 0]) rfl (by kernel_rfl) (by kernel_rfl) (by kernel_rfl) (fun _ _ _ h => h) (Or.inl ⟨by kernel_rfl, by intro w hSw; (try dsimp only at hSw); go_simp⟩) (by assumption) ?_
        refine wpAnyH_take (i := 12) (v := .int .i64 E) rfl (by kernel_rfl) (by kernel_rfl) (by kernel_rfl) (fun _ _ _ h => h) (Or.inl ⟨by kernel_rfl, by intro w hSw; (try dsimp only at hSw); go_simp⟩) (by assumption) ?_
        have HYY : Hid (∀ w', (∀ k, k < W19.heap.size → k ≠ W0.heap.size → w'.heap[k]? = W19.heap[k]?) → ItemIs w' (.agg #[.int .i64 Y.k, .string Y.t, .slice b1 Y.l.length e1, .slice b2 Y.p.length e2, .slice b3 Y.s.length e3]) Y) := fun w' hag => HY.out w' (fun k h1 h2 => hag k h2 (by have := HLB.out; omega))
        clear HY HLA HLB
        refine wpAnyH_ready (rs := [14]) (by kernel_rfl) (by simp) ?_
        refine AllReadyH.cons rfl (fun K hK => ?_) (AllReadyH.nil)
        · go_simp
          have HGC : Hid (w.heap.size < W19.heap.size) := (Array.getElem?_eq_some_iff.1 HR.out).1
          obtain ⟨W20, hW, hb, hN⟩ : ∃ V', W19.alloc (.cells #[.int .i64 0, .string ⟨#[]⟩, .int .i64 0, .slice none 0 0] 27) = V' ∧ Below W19.heap.size W19 V' ∧ V'.heap[W19.heap.size]? = some (.cells #[.int .i64 0, .string ⟨#[]⟩, .int .i64 0, .slice none 0 0] 27 (0, 0)) := ⟨_, rfl, (Below.refl _ W19).alloc (Nat.le_refl _) _, by show (W19.heap.push _)[W19.heap.size]? = _; simp⟩
          rw [hW]
          have HC2 := hide hN
          have HR2 := hide ((hb.block _ (Array.getElem?_eq_some_iff.1 HR.out).1).trans HR.out)
          have HB2 : Hid (Below w.heap.size w W20) := HB.out.trans (hb.mono HB.out.size)
          have HA2 := hide ((hb.block _ (Array.getElem?_eq_some_iff.1 HA.out).1).trans HA.out)
          have HYY2 : Hid (∀ w', (∀ k, k < W20.heap.size → k ≠ W0.heap.size → k ≠ W19.heap.size → w'.heap[k]? = W20.heap[k]?) → ItemIs w' (.agg #[.int .i64 Y.k, .string Y.t, .slice b1 Y.l.length e1, .slice b2 Y.p.length e2, .slice b3 Y.s.length e3]) Y) := fun w' hag => HYY.out w' (fun k h1 hA => (hag k (Nat.lt_of_lt_of_le h1 hb.size) hA (by omega)).trans (hb.block k h1))
          clear hb hN hW hHeld
          refine hK.out _ _ (HX.out _ HB2.out) (fun hHeld => ?_)
          clear hK K
          replace HR := HR2
          replace HB := HB2
          clear HR2 HB2
          replace HA := HA2
          clear HA2
          have HC := HC2
          clear HC2
          replace HYY := HYY2
          clear HYY2
          have hA := HA.out
          have hC := HC.out
          have hAC : ¬ W0.heap.size = W19.heap.size := fun h => by rw [h, hC] at hA; simp at hA
          have HP := hide (put5Q hA (.int .i64 Y.k) (.string Y.t) (.slice b1 Y.l.length e1) (.slice b2 Y.p.length e2) (.slice b3 Y.s.length e3))
          have m0 : W20.cell? ⟨W0.heap.size, 0, none⟩ = some (.int .i64 0) := by simp [World.cell?, hA]
          have n0 : W20.frozen? ⟨W0.heap.size, 0, none⟩ = false := by simp [World.frozen?, hA]
          have m1 : W20.cell? ⟨W0.heap.size, 1, none⟩ = some (.string ⟨#[]⟩) := by simp [World.cell?, hA]
          have n1 : W20.frozen? ⟨W0.heap.size, 1, none⟩ = false := by simp [World.frozen?, hA]
          have m2 : W20.cell? ⟨W0.heap.size, 2, none⟩ = some (.slice none 0 0) := by simp [World.cell?, hA]
          have n2 : W20.frozen? ⟨W0.heap.size, 2, none⟩ = false := by simp [World.frozen?, hA]
          have m3 : W20.cell? ⟨W0.heap.size, 3, none⟩ = some (.slice none 0 0) := by simp [World.cell?, hA]
          have n3 : W20.frozen? ⟨W0.heap.size, 3, none⟩ = false := by simp [World.frozen?, hA]
          have m4 : W20.cell? ⟨W0.heap.size, 4, none⟩ = some (.slice none 0 0) := by simp [World.cell?, hA]
          have n4 : W20.frozen? ⟨W0.heap.size, 4, none⟩ = false := by simp [World.frozen?, hA]
          have HL0 : Hid (w.heap.size < W0.heap.size ∧ w.heap.size < W19.heap.size) := ⟨HGA.out, HGC.out⟩
          clear hA hC
          refine wpAnyH_ready (rs := [15]) (by kernel_rfl) (by simp) ?_
          refine AllReadyH.cons rfl (fun K hK => ?_) (AllReadyH.nil)
          · go_simp
            obtain ⟨hH, hKp⟩ := HP.out
            generalize (((((W20.setCell ⟨W0.heap.size, 0, none⟩ (.int .i64 Y.k)).setCell ⟨W0.heap.size, 1, none⟩ (.string Y.t)).setCell ⟨W0.heap.size, 2, none⟩ (.slice b1 Y.l.length e1)).setCell ⟨W0.heap.size, 3, none⟩ (.slice b2 Y.p.length e2)).setCell ⟨W0.heap.size, 4, none⟩ (.slice b3 Y.s.length e3)) = WA at *
            have HB2 : Hid (Below w.heap.size w WA) := HB.out.trans (hKp.below (B := w.heap.size) (by have := HB.out.size; omega) (fun k hk => by simp only [one] at hk; have := HL0.out; omega))
            have hCC := (hKp.block _ (Array.getElem?_eq_some_iff.1 HC.out).1 (by simp only [one]; omega)).trans HC.out
            have hRR := (hKp.block _ (Array.getElem?_eq_some_iff.1 HR.out).1 (by simp only [one]; have := HL0.out; omega)).trans HR.out
            have HK1 := hide hKp
            have HAA := hide hH
            refine hK.out _ _ (HX.out _ HB2.out) (fun hHeld2 => ?_)
            clear hK K m0 m1 m2 m3 m4 n0 n1 n2 n3 n4 hH hKp
            have HQ := hide (put4R hCC (.int .i64 rk) (.string rt) (.int .i64 rn) (.slice none 0 0))
            have m0 : WA.cell? ⟨W19.heap.size, 0, none⟩ = some (.int .i64 0) := by simp [World.cell?, hCC]
            have n0 : WA.frozen? ⟨W19.heap.size, 0, none⟩ = false := by simp [World.frozen?, hCC]
            have m1 : WA.cell? ⟨W19.heap.size, 1, none⟩ = some (.string ⟨#[]⟩) := by simp [World.cell?, hCC]
            have n1 : WA.frozen? ⟨W19.heap.size, 1, none⟩ = false := by simp [World.frozen?, hCC]
            have m2 : WA.cell? ⟨W19.heap.size, 2, none⟩ = some (.int .i64 0) := by simp [World.cell?, hCC]
            have n2 : WA.frozen? ⟨W19.heap.size, 2, none⟩ = false := by simp [World.frozen?, hCC]
            have m3 : WA.cell? ⟨W19.heap.size, 3, none⟩ = some (.slice none 0 0) := by simp [World.cell?, hCC]
            have n3 : WA.frozen? ⟨W19.heap.size, 3, none⟩ = false := by simp [World.frozen?, hCC]
            have HRR := hide hRR
            clear hCC hRR
            refine wpAnyH_ready (rs := [16]) (by kernel_rfl) (by simp) ?_
            refine AllReadyH.cons rfl (fun K hK => ?_) (AllReadyH.nil)
            · go_simp
              obtain ⟨hH, hKp⟩ := HQ.out
              generalize ((((WA.setCell ⟨W19.heap.size, 0, none⟩ (.int .i64 rk)).setCell ⟨W19.heap.size, 1, none⟩ (.string rt)).setCell ⟨W19.heap.size, 2, none⟩ (.int .i64 rn)).setCell ⟨W19.heap.size, 3, none⟩ (.slice none 0 0)) = WB at *
              have HB3 : Hid (Below w.heap.size w WB) := HB2.out.trans (hKp.below (B := w.heap.size) (by have := HB2.out.size; omega) (fun k hk => by simp only [one] at hk; have := HL0.out; omega))
              refine hK.out _ _ (HX.out _ HB3.out) (fun hHeld3 => ?_)
              clear hK K m0 m1 m2 m3 n0 n1 n2 n3
              refine wpAnyH_take (i := 17) (v := .int .i64 E) rfl (by kernel_rfl) (by kernel_rfl) (by kernel_rfl) (fun _ _ _ h => h) (Or.inl ⟨by kernel_rfl, by intro w hSw; (try dsimp only at hSw); go_simp⟩) (by assumption) ?_
              refine wpAnyH_done (by kernel_rfl) ?_ _
              refine HT.out HB3.out ((hKp.block _ (Array.getElem?_eq_some_iff.1 HRR.out).1 (by simp only [one]; have := HL0.out; omega)).trans HRR.out) ((hKp.block _ (Array.getElem?_eq_some_iff.1 HAA.out).1 (by simp only [one]; omega)).trans HAA.out) hH (HYY.out WB (fun k h1 h2 h3 => (hKp.block k (Nat.lt_of_lt_of_le h1 HK1.out.size) (by simp only [one]; omega)).trans (HK1.out.block k h1 (by simp only [one]; omega)))) HL0.out.1 HL0.out.2
      · go_simp
        have HGC : Hid (w.heap.size < W18.heap.size) := (Array.getElem?_eq_some_iff.1 HR.out).1
        obtain ⟨W21, hW, hb, hN⟩ : ∃ V', W18.alloc (.cells #[.int .i64 0, .string ⟨#[]⟩, .int .i64 0, .slice none 0 0] 27) = V' ∧ Below W18.heap.size W18 V' ∧ V'.heap[W18.heap.size]? = some (.cells #[.int .i64 0, .string ⟨#[]⟩, .int .i64 0, .slice none 0 0] 27 (0, 0)) := ⟨_, rfl, (Below.refl _ W18).alloc (Nat.le_refl _) _, by show (W18.heap.push _)[W18.heap.size]? = _; simp⟩
        rw [hW]
        have HC2 := hide hN
        have HR2 := hide ((hb.block _ (Array.getElem?_eq_some_iff.1 HR.out).1).trans HR.out)
        have HB2 : Hid (Below w.heap.size w W21) := HB.out.trans (hb.mono HB.out.size)
        have HA2 := hide ((hb.block _ (Array.getElem?_eq_some_iff.1 HA.out).1).trans HA.out)
        have HV2 := hide (HV.out.below hb)
        clear hb hN hW hHeld
        refine hK.out _ _ (HX.out _ HB2.out) (fun hHeld => ?_)
        clear hK K
        replace HR := HR2
        replace HB := HB2
        clear HR2 HB2
        replace HA := HA2
        clear HA2
        have HC := HC2
        clear HC2
        replace HV := HV2
        clear HV2
        refine wpAnyH_ready (rs := [8]) (by kernel_rfl) (by simp) ?_
        refine AllReadyH.cons rfl (fun K hK => ?_) (AllReadyH.nil)
        · go_simp
          refine (HFF.out _ _ HB.out HV.out).mono ?_
          rintro e W22 ⟨⟨u, rfl, hy⟩, hb⟩
          obtain ⟨b1, e1, b2, e2, b3, e3, rfl⟩ := shapeE hy.at
          have HY : Hid (ItFrom W21.heap.size W22 _ Y) := hy
          have HLA : Hid (W21.heap.size ≤ W22.heap.size) := hb.size
          have HLB : Hid (W0.heap.size < W21.heap.size) := (Array.getElem?_eq_some_iff.1 HA.out).1
          have HLC : Hid (W18.heap.size < W21.heap.size) := (Array.getElem?_eq_some_iff.1 HC.out).1
          have HR2 := hide ((hb.block _ (Array.getElem?_eq_some_iff.1 HR.out).1).trans HR.out)
          have HB2 : Hid (Below w.heap.size w W22) := HB.out.trans (hb.mono HB.out.size)
          have HA2 := hide ((hb.block _ (Array.getElem?_eq_some_iff.1 HA.out).1).trans HA.out)
          have HC2 := hide ((hb.block _ (Array.getElem?_eq_some_iff.1 HC.out).1).trans HC.out)
          clear hb hy hHeld HV
          refine hK.out _ _ (HX.out _ HB2.out) (fun hHeld => ?_)
          clear hK K
          replace HR := HR2
          replace HB := HB2
          clear HR2 HB2
          replace HA := HA2
          clear HA2
          replace HC := HC2
          clear HC2
          refine wpAnyH_take (i := 9) (v := .tuple #[.agg #[.int .i64 Y.k, .string Y.t, .slice b1 Y.l.length e1, .slice b2 Y.p.length e2, .slice b3 Y.s.length e3], .agg #[.int .i64 rk, .string rt, .int .i64 rn, .slice none 0 0], .int .i64 E]) rfl (by kernel_rfl) (by kernel_rfl) (by kernel_rfl) (fun _ _ _ h => h) (Or.inl ⟨by kernel_rfl, by intro w hSw; (try dsimp only at hSw); go_simp⟩) (by assumption) ?_
          refine wpAnyH_take (i := 10) (v := .agg #[.int .i64 Y.k, .string Y.t, .slice b1 Y.l.length e1, .slice b2 Y.p.length e2, .slice b3 Y.s.length e3]) rfl (by kernel_rfl) (by kernel_rfl) (by kernel_rfl) (fun _ _ _ h => h) (Or.inl ⟨by kernel_rfl, by intro w hSw; (try dsimp only at hSw); go_simp⟩) (by assumption) ?_
          refine wpAnyH_take (i := 11) (v := .agg #[.int .i64 rk, .string rt, .int .i64 rn, .slice none 0 0]) rfl (by kernel_rfl) (by kernel_rfl) (by kernel_rfl) (fun _ _ _ h => h) (Or.inl ⟨by kernel_rfl, by intro w hSw; (try dsimp only at hSw); go_simp⟩) (by assumption) ?_
          refine wpAnyH_take (i := 12) (v := .int .i64 E) rfl (by kernel_rfl) (by kernel_rfl) (by kernel_rfl) (fun _ _ _ h => h) (Or.inl ⟨by kernel_rfl, by intro w hSw; (try dsimp only at hSw); go_simp⟩) (by assumption) ?_
          have HYY : Hid (∀ w', (∀ k, k < W22.heap.size → k ≠ W0.heap.size → k ≠ W18.heap.size → w'.heap[k]? = W22.heap[k]?) → ItemIs w' (.agg #[.int .i64 Y.k, .string Y.t, .slice b1 Y.l.length e1, .slice b2 Y.p.length e2, .slice b3 Y.s.length e3]) Y) := fun w' hag => HY.out w' (fun k h1 h2 => hag k h2 (by have := HLB.out; omega) (by have := HLC.out; omega))
          clear HY HLA HLB HLC
          have hA := HA.out
          have hC := HC.out
          have hAC : ¬ W0.heap.size = W18.heap.size := fun h => by rw [h, hC] at hA; simp at hA
          have HP := hide (put5Q hA (.int .i64 Y.k) (.string Y.t) (.slice b1 Y.l.length e1) (.slice b2 Y.p.length e2) (.slice b3 Y.s.length e3))
          have m0 : W22.cell? ⟨W0.heap.size, 0, none⟩ = some (.int .i64 0) := by simp [World.cell?, hA]
          have n0 : W22.frozen? ⟨W0.heap.size, 0, none⟩ = false := by simp [World.frozen?, hA]
          have m1 : W22.cell? ⟨W0.heap.size, 1, none⟩ = some (.string ⟨#[]⟩) := by simp [World.cell?, hA]
          have n1 : W22.frozen? ⟨W0.heap.size, 1, none⟩ = false := by simp [World.frozen?, hA]
          have m2 : W22.cell? ⟨W0.heap.size, 2, none⟩ = some (.slice none 0 0) := by simp [World.cell?, hA]
          have n2 : W22.frozen? ⟨W0.heap.size, 2, none⟩ = false := by simp [World.frozen?, hA]
          have m3 : W22.cell? ⟨W0.heap.size, 3, none⟩ = some (.slice none 0 0) := by simp [World.cell?, hA]
          have n3 : W22.frozen? ⟨W0.heap.size, 3, none⟩ = false := by simp [World.frozen?, hA]
          have m4 : W22.cell? ⟨W0.heap.size, 4, none⟩ = some (.slice none 0 0) := by simp [World.cell?, hA]
          have n4 : W22.frozen? ⟨W0.heap.size, 4, none⟩ = false := by simp [World.frozen?, hA]
          have HL0 : Hid (w.heap.size < W0.heap.size ∧ w.heap.size < W18.heap.size) := ⟨HGA.out, HGC.out⟩
          clear hA hC
          refine wpAnyH_ready (rs := [15]) (by kernel_rfl) (by simp) ?_
          refine AllReadyH.cons rfl (fun K hK => ?_) (AllReadyH.nil)
          · go_simp
            obtain ⟨hH, hKp⟩ := HP.out
            generalize (((((W22.setCell ⟨W0.heap.size, 0, none⟩ (.int .i64 Y.k)).setCell ⟨W0.heap.size, 1, none⟩ (.string Y.t)).setCell ⟨W0.heap.size, 2, none⟩ (.slice b1 Y.l.length e1)).setCell ⟨W0.heap.size, 3, none⟩ (.slice b2 Y.p.length e2)).setCell ⟨W0.heap.size, 4, none⟩ (.slice b3 Y.s.length e3)) = WA at *
            have HB2 : Hid (Below w.heap.size w WA) := HB.out.trans (hKp.below (B := w.heap.size) (by have := HB.out.size; omega) (fun k hk => by simp only [one] at hk; have := HL0.out; omega))
            have hCC := (hKp.block _ (Array.getElem?_eq_some_iff.1 HC.out).1 (by simp only [one]; omega)).trans HC.out
            have hRR := (hKp.block _ (Array.getElem?_eq_some_iff.1 HR.out).1 (by simp only [one]; have := HL0.out; omega)).trans HR.out
            have HK1 := hide hKp
            have HAA := hide hH
            refine hK.out _ _ (HX.out _ HB2.out) (fun hHeld2 => ?_)
            clear hK K m0 m1 m2 m3 m4 n0 n1 n2 n3 n4 hH hKp
            have HQ := hide (put4R hCC (.int .i64 rk) (.string rt) (.int .i64 rn) (.slice none 0 0))
            have m0 : WA.cell? ⟨W18.heap.size, 0, none⟩ = some (.int .i64 0) := by simp [World.cell?, hCC]
            have n0 : WA.frozen? ⟨W18.heap.size, 0, none⟩ = false := by simp [World.frozen?, hCC]
            have m1 : WA.cell? ⟨W18.heap.size, 1, none⟩ = some (.string ⟨#[]⟩) := by simp [World.cell?, hCC]
            have n1 : WA.frozen? ⟨W18.heap.size, 1, none⟩ = false := by simp [World.frozen?, hCC]
            have m2 : WA.cell? ⟨W18.heap.size, 2, none⟩ = some (.int .i64 0) := by simp [World.cell?, hCC]
            have n2 : WA.frozen? ⟨W18.heap.size, 2, none⟩ = false := by simp [World.frozen?, hCC]
            have m3 : WA.cell? ⟨W18.heap.size, 3, none⟩ = some (.slice none 0 0) := by simp [World.cell?, hCC]
            have n3 : WA.frozen? ⟨W18.heap.size, 3, none⟩ = false := by simp [World.frozen?, hCC]
            have HRR := hide hRR
            clear hCC hRR
            refine wpAnyH_ready (rs := [16]) (by kernel_rfl) (by simp) ?_
            refine AllReadyH.cons rfl (fun K hK => ?_) (AllReadyH.nil)
            · go_simp
              obtain ⟨hH, hKp⟩ := HQ.out
              generalize ((((WA.setCell ⟨W18.heap.size, 0, none⟩ (.int .i64 rk)).setCell ⟨W18.heap.size, 1, none⟩ (.string rt)).setCell ⟨W18.heap.size, 2, none⟩ (.int .i64 rn)).setCell ⟨W18.heap.size, 3, none⟩ (.slice none 0 0)) = WB at *
              have HB3 : Hid (Below w.heap.size w WB) := HB2.out.trans (hKp.below (B := w.heap.size) (by have := HB2.out.size; omega) (fun k hk => by simp only [one] at hk; have := HL0.out; omega))
              refine hK.out _ _ (HX.out _ HB3.out) (fun hHeld3 => ?_)
              clear hK K m0 m1 m2 m3 n0 n1 n2 n3
              refine wpAnyH_take (i := 17) (v := .int .i64 E) rfl (by kernel_rfl) (by kernel_rfl) (by kernel_rfl) (fun _ _ _ h => h) (Or.inl ⟨by kernel_rfl, by intro w hSw; (try dsimp only at hSw); go_simp⟩) (by assumption) ?_
              refine wpAnyH_done (by kernel_rfl) ?_ _
              refine HT.out HB3.out ((hKp.block _ (Array.getElem?_eq_some_iff.1 HRR.out).1 (by simp only [one]; have := HL0.out; omega)).trans HRR.out) ((hKp.block _ (Array.getElem?_eq_some_iff.1 HAA.out).1 (by simp only [one]; omega)).trans HAA.out) hH (HYY.out WB (fun k h1 h2 h3 => (hKp.block k (Nat.lt_of_lt_of_le h1 HK1.out.size) (by simp only [one]; omega)).trans (HK1.out.block k h1 (by simp only [one]; omega)))) HL0.out.1 HL0.out.2
    · go_simp
      have HGC : Hid (w.heap.size < W17.heap.size) := (Array.getElem?_eq_some_iff.1 HR.out).1
      obtain ⟨W23, hW, hb, hN⟩ : ∃ V', W17.alloc (.cells #[.int .i64 0, .string ⟨#[]⟩, .int .i64 0, .slice none 0 0] 27) = V' ∧ Below W17.heap.size W17 V' ∧ V'.heap[W17.heap.size]? = some (.cells #[.int .i64 0, .string ⟨#[]⟩, .int .i64 0, .slice none 0 0] 27 (0, 0)) := ⟨_, rfl, (Below.refl _ W17).alloc (Nat.le_refl _) _, by show (W17.heap.push _)[W17.heap.size]? = _; simp⟩
      rw [hW]
      have HC2 := hide hN
      have HR2 := hide ((hb.block _ (Array.getElem?_eq_some_iff.1 HR.out).1).trans HR.out)
      have HB2 : Hid (Below w.heap.size w W23) := HB.out.trans (hb.mono HB.out.size)
      have HA2 := hide ((hb.block _ (Array.getElem?_eq_some_iff.1 HA.out).1).trans HA.out)
      clear hb hN hW hHeld
      refine hK.out _ _ (HX.out _ HB2.out) (fun hHeld => ?_)
      clear hK K
      replace HR := HR2
      replace HB := HB2
      clear HR2 HB2
      replace HA := HA2
      clear HA2
      have HC := HC2
      clear HC2
      refine wpAnyH_ready (rs := [5]) (by kernel_rfl) (by simp) ?_
      refine AllReadyH.cons rfl (fun K hK => ?_) (AllReadyH.nil)
      · go_simp
        refine (HI.out _ HB.out).mono ?_
        rintro e W24 ⟨⟨v, rfl, hi⟩, hb⟩
        obtain ⟨a1, c1, a2, c2, a3, c3, rfl⟩ := shapeE hi
        have HV := hide hi
        have HR2 := hide ((hb.block _ (Array.getElem?_eq_some_iff.1 HR.out).1).trans HR.out)
        have HB2 : Hid (Below w.heap.size w W24) := HB.out.trans (hb.mono HB.out.size)
        have HA2 := hide ((hb.block _ (Array.getElem?_eq_some_iff.1 HA.out).1).trans HA.out)
        have HC2 := hide ((hb.block _ (Array.getElem?_eq_some_iff.1 HC.out).1).trans HC.out)
        clear hb hi hHeld
        refine hK.out _ _ (HX.out _ HB2.out) (fun hHeld => ?_)
        clear hK K
        replace HR := HR2
        replace HB := HB2
        clear HR2 HB2
        replace HA := HA2
        clear HA2
        replace HC := HC2
        clear HC2
        refine wpAnyH_ready (rs := [8]) (by kernel_rfl) (by simp) ?_
        refine AllReadyH.cons rfl (fun K hK => ?_) (AllReadyH.nil)
        · go_simp
          refine (HFF.out _ _ HB.out HV.out).mono ?_
          rintro e W25 ⟨⟨u, rfl, hy⟩, hb⟩
          obtain ⟨b1, e1, b2, e2, b3, e3, rfl⟩ := shapeE hy.at
          have HY : Hid (ItFrom W24.heap.size W25 _ Y) := hy
          have HLA : Hid (W24.heap.size ≤ W25.heap.size) := hb.size
          have HLB : Hid (W0.heap.size < W24.heap.size) := (Array.getElem?_eq_some_iff.1 HA.out).1
          have HLC : Hid (W17.heap.size < W24.heap.size) := (Array.getElem?_eq_some_iff.1 HC.out).1
          have HR2 := hide ((hb.block _ (Array.getElem?_eq_some_iff.1 HR.out).1).trans HR.out)
          have HB2 : Hid (Below w.heap.size w W25) := HB.out.trans (hb.mono HB.out.size)
          have HA2 := hide ((hb.block _ (Array.getElem?_eq_some_iff.1 HA.out).1).trans HA.out)
          have HC2 := hide ((hb.block _ (Array.getElem?_eq_some_iff.1 HC.out).1).trans HC.out)
          clear hb hy hHeld HV
          refine hK.out _ _ (HX.out _ HB2.out) (fun hHeld => ?_)
          clear hK K
          replace HR := HR2
          replace HB := HB2
          clear HR2 HB2
          replace HA := HA2
          clear HA2
          replace HC := HC2
          clear HC2
          refine wpAnyH_take (i := 9) (v := .tuple #[.agg #[.int .i64 Y.k, .string Y.t, .slice b1 Y.l.length e1, .slice b2 Y.p.length e2, .slice b3 Y.s.length e3], .agg #[.int .i64 rk, .string rt, .int .i64 rn, .slice none 0 0], .int .i64 E]) rfl (by kernel_rfl) (by kernel_rfl) (by kernel_rfl) (fun _ _ _ h => h) (Or.inl ⟨by kernel_rfl, by intro w hSw; (try dsimp only at hSw); go_simp⟩) (by assumption) ?_
          refine wpAnyH_take (i := 10) (v := .agg #[.int .i64 Y.k, .string Y.t, .slice b1 Y.l.length e1, .slice b2 Y.p.length e2, .slice b3 Y.s.length e3]) rfl (by kernel_rfl) (by kernel_rfl) (by kernel_rfl) (fun _ _ _ h => h) (Or.inl ⟨by kernel_rfl, by intro w hSw; (try dsimp only at hSw); go_simp⟩) (by assumption) ?_
          refine wpAnyH_take (i := 11) (v := .agg #[.int .i64 rk, .string rt, .int .i64 rn, .slice none 0 0]) rfl (by kernel_rfl) (by kernel_rfl) (by kernel_rfl) (fun _ _ _ h => h) (Or.inl ⟨by kernel_rfl, by intro w hSw; (try dsimp only at hSw); go_simp⟩) (by assumption) ?_
          refine wpAnyH_take (i := 12) (v := .int .i64 E) rfl (by kernel_rfl) (by kernel_rfl) (by kernel_rfl) (fun _ _ _ h => h) (Or.inl ⟨by kernel_rfl, by intro w hSw; (try dsimp only at hSw); go_simp⟩) (by assumption) ?_
          have HYY : Hid (∀ w', (∀ k, k < W25.heap.size → k ≠ W0.heap.size → k ≠ W17.heap.size → w'.heap[k]? = W25.heap[k]?) → ItemIs w' (.agg #[.int .i64 Y.k, .string Y.t, .slice b1 Y.l.length e1, .slice b2 Y.p.length e2, .slice b3 Y.s.length e3]) Y) := fun w' hag => HY.out w' (fun k h1 h2 => hag k h2 (by have := HLB.out; omega) (by have := HLC.out; omega))
          clear HY HLA HLB HLC
          have hA := HA.out
          have hC := HC.out
          have hAC : ¬ W0.heap.size = W17.heap.size := fun h => by rw [h, hC] at hA; simp at hA
          have HP := hide (put5Q hA (.int .i64 Y.k) (.string Y.t) (.slice b1 Y.l.length e1) (.slice b2 Y.p.length e2) (.slice b3 Y.s.length e3))
          have m0 : W25.cell? ⟨W0.heap.size, 0, none⟩ = some (.int .i64 0) := by simp [World.cell?, hA]
          have n0 : W25.frozen? ⟨W0.heap.size, 0, none⟩ = false := by simp [World.frozen?, hA]
          have m1 : W25.cell? ⟨W0.heap.size, 1, none⟩ = some (.string ⟨#[]⟩) := by simp [World.cell?, hA]
          have n1 : W25.frozen? ⟨W0.heap.size, 1, none⟩ = false := by simp [World.frozen?, hA]
          have m2 : W25.cell? ⟨W0.heap.size, 2, none⟩ = some (.slice none 0 0) := by simp [World.cell?, hA]
          have n2 : W25.frozen? ⟨W0.heap.size, 2, none⟩ = false := by simp [World.frozen?, hA]
          have m3 : W25.cell? ⟨W0.heap.size, 3, none⟩ = some (.slice none 0 0) := by simp [World.cell?, hA]
          have n3 : W25.frozen? ⟨W0.heap.size, 3, none⟩ = false := by simp [World.frozen?, hA]
          have m4 : W25.cell? ⟨W0.heap.size, 4, none⟩ = some (.slice none 0 0) := by simp [World.cell?, hA]
          have n4 : W25.frozen? ⟨W0.heap.size, 4, none⟩ = false := by simp [World.frozen?, hA]
          have HL0 : Hid (w.heap.size < W0.heap.size ∧ w.heap.size < W17.heap.size) := ⟨HGA.out, HGC.out⟩
          clear hA hC
          refine wpAnyH_ready (rs := [15]) (by kernel_rfl) (by simp) ?_
          refine AllReadyH.cons rfl (fun K hK => ?_) (AllReadyH.nil)
          · go_simp
            obtain ⟨hH, hKp⟩ := HP.out
            generalize (((((W25.setCell ⟨W0.heap.size, 0, none⟩ (.int .i64 Y.k)).setCell ⟨W0.heap.size, 1, none⟩ (.string Y.t)).setCell ⟨W0.heap.size, 2, none⟩ (.slice b1 Y.l.length e1)).setCell ⟨W0.heap.size, 3, none⟩ (.slice b2 Y.p.length e2)).setCell ⟨W0.heap.size, 4, none⟩ (.slice b3 Y.s.length e3)) = WA at *
            have HB2 : Hid (Below w.heap.size w WA) := HB.out.trans (hKp.below (B := w.heap.size) (by have := HB.out.size; omega) (fun k hk => by simp only [one] at hk; have := HL0.out; omega))
            have hCC := (hKp.block _ (Array.getElem?_eq_some_iff.1 HC.out).1 (by simp only [one]; omega)).trans HC.out
            have hRR := (hKp.block _ (Array.getElem?_eq_some_iff.1 HR.out).1 (by simp only [one]; have := HL0.out; omega)).trans HR.out
            have HK1 := hide hKp
            have HAA := hide hH
            refine hK.out _ _ (HX.out _ HB2.out) (fun hHeld2 => ?_)
            clear hK K m0 m1 m2 m3 m4 n0 n1 n2 n3 n4 hH hKp
            have HQ := hide (put4R hCC (.int .i64 rk) (.string rt) (.int .i64 rn) (.slice none 0 0))
            have m0 : WA.cell? ⟨W17.heap.size, 0, none⟩ = some (.int .i64 0) := by simp [World.cell?, hCC]
            have n0 : WA.frozen? ⟨W17.heap.size, 0, none⟩ = false := by simp [World.frozen?, hCC]
            have m1 : WA.cell? ⟨W17.heap.size, 1, none⟩ = some (.string ⟨#[]⟩) := by simp [World.cell?, hCC]
            have n1 : WA.frozen? ⟨W17.heap.size, 1, none⟩ = false := by simp [World.frozen?, hCC]
            have m2 : WA.cell? ⟨W17.heap.size, 2, none⟩ = some (.int .i64 0) := by simp [World.cell?, hCC]
            have n2 : WA.frozen? ⟨W17.heap.size, 2, none⟩ = false := by simp [World.frozen?, hCC]
            have m3 : WA.cell? ⟨W17.heap.size, 3, none⟩ = some (.slice none 0 0) := by simp [World.cell?, hCC]
            have n3 : WA.frozen? ⟨W17.heap.size, 3, none⟩ = false := by simp [World.frozen?, hCC]
            have HRR := hide hRR
            clear hCC hRR
            refine wpAnyH_ready (rs := [16]) (by kernel_rfl) (by simp) ?_
            refine AllReadyH.cons rfl (fun K hK => ?_) (AllReadyH.nil)
            · go_simp
              obtain ⟨hH, hKp⟩ := HQ.out
              generalize ((((WA.setCell ⟨W17.heap.size, 0, none⟩ (.int .i64 rk)).setCell ⟨W17.heap.size, 1, none⟩ (.string rt)).setCell ⟨W17.heap.size, 2, none⟩ (.int .i64 rn)).setCell ⟨W17.heap.size, 3, none⟩ (.slice none 0 0)) = WB at *
              have HB3 : Hid (Below w.heap.size w WB) := HB2.out.trans (hKp.below (B := w.heap.size) (by have := HB2.out.size; omega) (fun k hk => by simp only [one] at hk; have := HL0.out; omega))
              refine hK.out _ _ (HX.out _ HB3.out) (fun hHeld3 => ?_)
              clear hK K m0 m1 m2 m3 n0 n1 n2 n3
              refine wpAnyH_take (i := 17) (v := .int .i64 E) rfl (by kernel_rfl) (by kernel_rfl) (by kernel_rfl) (fun _ _ _ h => h) (Or.inl ⟨by kernel_rfl, by intro w hSw; (try dsimp only at hSw); go_simp⟩) (by assumption) ?_
              refine wpAnyH_done (by kernel_rfl) ?_ _
              refine HT.out HB3.out ((hKp.block _ (Array.getElem?_eq_some_iff.1 HRR.out).1 (by simp only [one]; have := HL0.out; omega)).trans HRR.out) ((hKp.block _ (Array.getElem?_eq_some_iff.1 HAA.out).1 (by simp only [one]; omega)).trans HAA.out) hH (HYY.out WB (fun k h1 h2 h3 => (hKp.block k (Nat.lt_of_lt_of_le h1 HK1.out.size) (by simp only [one]; omega)).trans (HK1.out.block k h1 (by simp only [one]; omega)))) HL0.out.1 HL0.out.2
  · go_simp
    have HGC : Hid (w.heap.size < W0.heap.size) := (Array.getElem?_eq_some_iff.1 HR.out).1
    obtain ⟨W26, hW, hb, hN⟩ : ∃ V', W0.alloc (.cells #[.int .i64 0, .string ⟨#[]⟩, .int .i64 0, .slice none 0 0] 27) = V' ∧ Below W0.heap.size W0 V' ∧ V'.heap[W0.heap.size]? = some (.cells #[.int .i64 0, .string ⟨#[]⟩, .int .i64 0, .slice none 0 0] 27 (0, 0)) := ⟨_, rfl, (Below.refl _ W0).alloc (Nat.le_refl _) _, by show (W0.heap.push _)[W0.heap.size]? = _; simp⟩
    rw [hW]
    have HC2 := hide hN
    have HR2 := hide ((hb.block _ (Array.getElem?_eq_some_iff.1 HR.out).1).trans HR.out)
    have HB2 : Hid (Below w.heap.size w W26) := HB.out.trans (hb.mono HB.out.size)
    clear hb hN hW hHeld
    refine hK.out _ _ (HX.out _ HB2.out) (fun hHeld => ?_)
    clear hK K
    replace HR := HR2
    replace HB := HB2
    clear HR2 HB2
    have HC := HC2
    clear HC2
    refine wpAnyH_ready (rs := [5, 13]) (by kernel_rfl) (by simp) ?_
    refine AllReadyH.cons rfl (fun K hK => ?_) (AllReadyH.cons rfl (fun K hK => ?_) (AllReadyH.nil))
    · go_simp
      refine (HI.out _ HB.out).mono ?_
      rintro e W27 ⟨⟨v, rfl, hi⟩, hb⟩
      obtain ⟨a1, c1, a2, c2, a3, c3, rfl⟩ := shapeE hi
      have HV := hide hi
      have HR2 := hide ((hb.block _ (Array.getElem?_eq_some_iff.1 HR.out).1).trans HR.out)
      have HB2 : Hid (Below w.heap.size w W27) := HB.out.trans (hb.mono HB.out.size)
      have HC2 := hide ((hb.block _ (Array.getElem?_eq_some_iff.1 HC.out).1).trans HC.out)
      clear hb hi hHeld
      refine hK.out _ _ (HX.out _ HB2.out) (fun hHeld => ?_)
      clear hK K
      replace HR := HR2
      replace HB := HB2
      clear HR2 HB2
      replace HC := HC2
      clear HC2
      refine wpAnyH_ready (rs := [8, 13]) (by kernel_rfl) (by simp) ?_
      refine AllReadyH.cons rfl (fun K hK => ?_) (AllReadyH.cons rfl (fun K hK => ?_) (AllReadyH.nil))
      · go_simp
        refine (HFF.out _ _ HB.out HV.out).mono ?_
        rintro e W28 ⟨⟨u, rfl, hy⟩, hb⟩
        obtain ⟨b1, e1, b2, e2, b3, e3, rfl⟩ := shapeE hy.at
        have HY : Hid (ItFrom W27.heap.size W28 _ Y) := hy
        have HLA : Hid (W27.heap.size ≤ W28.heap.size) := hb.size
        have HLC : Hid (W0.heap.size < W27.heap.size) := (Array.getElem?_eq_some_iff.1 HC.out).1
        have HR2 := hide ((hb.block _ (Array.getElem?_eq_some_iff.1 HR.out).1).trans HR.out)
        have HB2 : Hid (Below w.heap.size w W28) := HB.out.trans (hb.mono HB.out.size)
        have HC2 := hide ((hb.block _ (Array.getElem?_eq_some_iff.1 HC.out).1).trans HC.out)
        clear hb hy hHeld HV
        refine hK.out _ _ (HX.out _ HB2.out) (fun hHeld => ?_)
        clear hK K
        replace HR := HR2
        replace HB := HB2
        clear HR2 HB2
        replace HC := HC2
        clear HC2
        refine wpAnyH_take (i := 9) (v := .tuple #[.agg #[.int .i64 Y.k, .string Y.t, .slice b1 Y.l.length e1, .slice b2 Y.p.length e2, .slice b3 Y.s.length e3], .agg #[.int .i64 rk, .string rt, .int .i64 rn, .slice none 0 0], .int .i64 E]) rfl (by kernel_rfl) (by kernel_rfl) (by kernel_rfl) (fun _ _ _ h => h) (Or.inl ⟨by kernel_rfl, by intro w hSw; (try dsimp only at hSw); go_simp⟩) (by assumption) ?_
        refine wpAnyH_take (i := 10) (v := .agg #[.int .i64 Y.k, .string Y.t, .slice b1 Y.l.length e1, .slice b2 Y.p.length e2, .slice b3 Y.s.length e3]) rfl (by kernel_rfl) (by kernel_rfl) (by kernel_rfl) (fun _ _ _ h => h) (Or.inl ⟨by kernel_rfl, by intro w hSw; (try dsimp only at hSw); go_simp⟩) (by assumption) ?_
        refine wpAnyH_take (i := 11) (v := .agg #[.int .i64 rk, .string rt, .int .i64 rn, .slice none 0 0]) rfl (by kernel_rfl) (by kernel_rfl) (by kernel_rfl) (fun _ _ _ h => h) (Or.inl ⟨by kernel_rfl, by intro w hSw; (try dsimp only at hSw); go_simp⟩) (by assumption) ?_
        refine wpAnyH_take (i := 12) (v := .int .i64 E) rfl (by kernel_rfl) (by kernel_rfl) (by kernel_rfl) (fun _ _ _ h => h) (Or.inl ⟨by kernel_rfl, by intro w hSw; (try dsimp only at hSw); go_simp⟩) (by assumption) ?_
        have HYY : Hid (∀ w', (∀ k, k < W28.heap.size → k ≠ W0.heap.size → w'.heap[k]? = W28.heap[k]?) → ItemIs w' (.agg #[.int .i64 Y.k, .string Y.t, .slice b1 Y.l.length e1, .slice b2 Y.p.length e2, .slice b3 Y.s.length e3]) Y) := fun w' hag => HY.out w' (fun k h1 h2 => hag k h2 (by have := HLC.out; omega))
        clear HY HLA HLC
        refine wpAnyH_ready (rs := [13]) (by kernel_rfl) (by simp) ?_
        refine AllReadyH.cons rfl (fun K hK => ?_) (AllReadyH.nil)
        · go_simp
          have HGA : Hid (w.heap.size < W28.heap.size) := (Array.getElem?_eq_some_iff.1 HR.out).1
          obtain ⟨W29, hW, hb, hN⟩ : ∃ V', W28.alloc (.cells #[.int .i64 0, .string ⟨#[]⟩, .slice none 0 0, .slice none 0 0, .slice none 0 0] 40) = V' ∧ Below W28.heap.size W28 V' ∧ V'.heap[W28.heap.size]? = some (.cells #[.int .i64 0, .string ⟨#[]⟩, .slice none 0 0, .slice none 0 0, .slice none 0 0] 40 (0, 0)) := ⟨_, rfl, (Below.refl _ W28).alloc (Nat.le_refl _) _, by show (W28.heap.push _)[W28.heap.size]? = _; simp⟩
          rw [hW]
          have HA2 := hide hN
          have HR2 := hide ((hb.block _ (Array.getElem?_eq_some_iff.1 HR.out).1).trans HR.out)
          have HB2 : Hid (Below w.heap.size w W29) := HB.out.trans (hb.mono HB.out.size)
          have HC2 := hide ((hb.block _ (Array.getElem?_eq_some_iff.1 HC.out).1).trans HC.out)
          have HYY2 : Hid (∀ w', (∀ k, k < W29.heap.size → k ≠ W28.heap.size → k ≠ W0.heap.size → w'.heap[k]? = W29.heap[k]?) → ItemIs w' (.agg #[.int .i64 Y.k, .string Y.t, .slice b1 Y.l.length e1, .slice b2 Y.p.length e2, .slice b3 Y.s.length e3]) Y) := fun w' hag => HYY.out w' (fun k h1 hC => (hag k (Nat.lt_of_lt_of_le h1 hb.size) (by omega) hC).trans (hb.block k h1))
          clear hb hN hW hHeld
          refine hK.out _ _ (HX.out _ HB2.out) (fun hHeld => ?_)
          clear hK K
          replace HR := HR2
          replace HB := HB2
          clear HR2 HB2
          have HA := HA2
          clear HA2
          replace HC := HC2
          clear HC2
          replace HYY := HYY2
          clear HYY2
          have hA := HA.out
          have hC := HC.out
          have hAC : ¬ W28.heap.size = W0.heap.size := fun h => by rw [h, hC] at hA; simp at hA
          have HP := hide (put5Q hA (.int .i64 Y.k) (.string Y.t) (.slice b1 Y.l.length e1) (.slice b2 Y.p.length e2) (.slice b3 Y.s.length e3))
          have m0 : W29.cell? ⟨W28.heap.size, 0, none⟩ = some (.int .i64 0) := by simp [World.cell?, hA]
          have n0 : W29.frozen? ⟨W28.heap.size, 0, none⟩ = false := by simp [World.frozen?, hA]
          have m1 : W29.cell? ⟨W28.heap.size, 1, none⟩ = some (.string ⟨#[]⟩) := by simp [World.cell?, hA]
          have n1 : W29.frozen? ⟨W28.heap.size, 1, none⟩ = false := by simp [World.frozen?, hA]
          have m2 : W29.cell? ⟨W28.heap.size, 2, none⟩ = some (.slice none 0 0) := by simp [World.cell?, hA]
          have n2 : W29.frozen? ⟨W28.heap.size, 2, none⟩ = false := by simp [World.frozen?, hA]
          have m3 : W29.cell? ⟨W28.heap.size, 3, none⟩ = some (.slice none 0 0) := by simp [World.cell?, hA]
          have n3 : W29.frozen? ⟨W28.heap.size, 3, none⟩ = false := by simp [World.frozen?, hA]
          have m4 : W29.cell? ⟨W28.heap.size, 4, none⟩ = some (.slice none 0 0) := by simp [World.cell?, hA]
          have n4 : W29.frozen? ⟨W28.heap.size, 4, none⟩ = false := by simp [World.frozen?, hA]
          have HL0 : Hid (w.heap.size < W28.heap.size ∧ w.heap.size < W0.heap.size) := ⟨HGA.out, HGC.out⟩
          clear hA hC
          refine wpAnyH_ready (rs := [15]) (by kernel_rfl) (by simp) ?_
          refine AllReadyH.cons rfl (fun K hK => ?_) (AllReadyH.nil)
          · go_simp
            obtain ⟨hH, hKp⟩ := HP.out
            generalize (((((W29.setCell ⟨W28.heap.size, 0, none⟩ (.int .i64 Y.k)).setCell ⟨W28.heap.size, 1, none⟩ (.string Y.t)).setCell ⟨W28.heap.size, 2, none⟩ (.slice b1 Y.l.length e1)).setCell ⟨W28.heap.size, 3, none⟩ (.slice b2 Y.p.length e2)).setCell ⟨W28.heap.size, 4, none⟩ (.slice b3 Y.s.length e3)) = WA at *
            have HB2 : Hid (Below w.heap.size w WA) := HB.out.trans (hKp.below (B := w.heap.size) (by have := HB.out.size; omega) (fun k hk => by simp only [one] at hk; have := HL0.out; omega))
            have hCC := (hKp.block _ (Array.getElem?_eq_some_iff.1 HC.out).1 (by simp only [one]; omega)).trans HC.out
            have hRR := (hKp.block _ (Array.getElem?_eq_some_iff.1 HR.out).1 (by simp only [one]; have := HL0.out; omega)).trans HR.out
            have HK1 := hide hKp
            have HAA := hide hH
            refine hK.out _ _ (HX.out _ HB2.out) (fun hHeld2 => ?_)
            clear hK K m0 m1 m2 m3 m4 n0 n1 n2 n3 n4 hH hKp
            have HQ := hide (put4R hCC (.int .i64 rk) (.string rt) (.int .i64 rn) (.slice none 0 0))
            have m0 : WA.cell? ⟨W0.heap.size, 0, none⟩ = some (.int .i64 0) := by simp [World.cell?, hCC]
            have n0 : WA.frozen? ⟨W0.heap.size, 0, none⟩ = false := by simp [World.frozen?, hCC]
            have m1 : WA.cell? ⟨W0.heap.size, 1, none⟩ = some (.string ⟨#[]⟩) := by simp [World.cell?, hCC]
            have n1 : WA.frozen? ⟨W0.heap.size, 1, none⟩ = false := by simp [World.frozen?, hCC]
            have m2 : WA.cell? ⟨W0.heap.size, 2, none⟩ = some (.int .i64 0) := by simp [World.cell?, hCC]
            have n2 : WA.frozen? ⟨W0.heap.size, 2, none⟩ = false := by simp [World.frozen?, hCC]
            have m3 : WA.cell? ⟨W0.heap.size, 3, none⟩ = some (.slice none 0 0) := by simp [World.cell?, hCC]
            have n3 : WA.frozen? ⟨W0.heap.size, 3, none⟩ = false := by simp [World.frozen?, hCC]
            have HRR := hide hRR
            clear hCC hRR
            refine wpAnyH_ready (rs := [16]) (by kernel_rfl) (by simp) ?_
            refine AllReadyH.cons rfl (fun K hK => ?_) (AllReadyH.nil)
            · go_simp
              obtain ⟨hH, hKp⟩ := HQ.out
              generalize ((((WA.setCell ⟨W0.heap.size, 0, none⟩ (.int .i64 rk)).setCell ⟨W0.heap.size, 1, none⟩ (.string rt)).setCell ⟨W0.heap.size, 2, none⟩ (.int .i64 rn)).setCell ⟨W0.heap.size, 3, none⟩ (.slice none 0 0)) = WB at *
              have HB3 : Hid (Below w.heap.size w WB) := HB2.out.trans (hKp.below (B := w.heap.size) (by have := HB2.out.size; omega) (fun k hk => by simp only [one] at hk; have := HL0.out; omega))
              refine hK.out _ _ (HX.out _ HB3.out) (fun hHeld3 => ?_)
              clear hK K m0 m1 m2 m3 n0 n1 n2 n3
              refine wpAnyH_take (i := 17) (v := .int .i64 E) rfl (by kernel_rfl) (by kernel_rfl) (by kernel_rfl) (fun _ _ _ h => h) (Or.inl ⟨by kernel_rfl, by intro w hSw; (try dsimp only at hSw); go_simp⟩) (by assumption) ?_
              refine wpAnyH_done (by kernel_rfl) ?_ _
              refine HT.out HB3.out ((hKp.block _ (Array.getElem?_eq_some_iff.1 HRR.out).1 (by simp only [one]; have := HL0.out; omega)).trans HRR.out) ((hKp.block _ (Array.getElem?_eq_some_iff.1 HAA.out).1 (by simp only [one]; omega)).trans HAA.out) hH (HYY.out WB (fun k h1 h2 h3 => (hKp.block k (Nat.lt_of_lt_of_le h1 HK1.out.size) (by simp only [one]; omega)).trans (HK1.out.block k h1 (by simp only [one]; omega)))) HL0.out.1 HL0.out.2
      · go_simp
        have HGA : Hid (w.heap.size < W27.heap.size) := (Array.getElem?_eq_some_iff.1 HR.out).1
        obtain ⟨W30, hW, hb, hN⟩ : ∃ V', W27.alloc (.cells #[.int .i64 0, .string ⟨#[]⟩, .slice none 0 0, .slice none 0 0, .slice none 0 0] 40) = V' ∧ Below W27.heap.size W27 V' ∧ V'.heap[W27.heap.size]? = some (.cells #[.int .i64 0, .string ⟨#[]⟩, .slice none 0 0, .slice none 0 0, .slice none 0 0] 40 (0, 0)) := ⟨_, rfl, (Below.refl _ W27).alloc (Nat.le_refl _) _, by show (W27.heap.push _)[W27.heap.size]? = _; simp⟩
        rw [hW]
        have HA2 := hide hN
        have HR2 := hide ((hb.block _ (Array.getElem?_eq_some_iff.1 HR.out).1).trans HR.out)
        have HB2 : Hid (Below w.heap.size w W30) := HB.out.trans (hb.mono HB.out.size)
        have HC2 := hide ((hb.block _ (Array.getElem?_eq_some_iff.1 HC.out).1).trans HC.out)
        have HV2 := hide (HV.out.below hb)
        clear hb hN hW hHeld
        refine hK.out _ _ (HX.out _ HB2.out) (fun hHeld => ?_)
        clear hK K
        replace HR := HR2
        replace HB := HB2
        clear HR2 HB2
        have HA := HA2
        clear HA2
        replace HC := HC2
        clear HC2
        replace HV := HV2
        clear HV2
        refine wpAnyH_ready (rs := [8]) (by kernel_rfl) (by simp) ?_
        refine AllReadyH.cons rfl (fun K hK => ?_) (AllReadyH.nil)
        · go_simp
          refine (HFF.out _ _ HB.out HV.out).mono ?_
          rintro e W31 ⟨⟨u, rfl, hy⟩, hb⟩
          obtain ⟨b1, e1, b2, e2, b3, e3, rfl⟩ := shapeE hy.at
          have HY : Hid (ItFrom W30.heap.size W31 _ Y) := hy
          have HLA : Hid (W30.heap.size ≤ W31.heap.size) := hb.size
          have HLB : Hid (W27.heap.size < W30.heap.size) := (Array.getElem?_eq_some_iff.1 HA.out).1
          have HLC : Hid (W0.heap.size < W30.heap.size) := (Array.getElem?_eq_some_iff.1 HC.out).1
          have HR2 := hide ((hb.block _ (Array.getElem?_eq_some_iff.1 HR.out).1).trans HR.out)
          have HB2 : Hid (Below w.heap.size w W31) := HB.out.trans (hb.mono HB.out.size)
          have HA2 := hide ((hb.block _ (Array.getElem?_eq_some_iff.1 HA.out).1).trans HA.out)
          have HC2 := hide ((hb.block _ (Array.getElem?_eq_some_iff.1 HC.out).1).trans HC.out)
          clear hb hy hHeld HV
          refine hK.out _ _ (HX.out _ HB2.out) (fun hHeld => ?_)
          clear hK K
          replace HR := HR2
          replace HB := HB2
          clear HR2 HB2
          replace HA := HA2
          clear HA2
          replace HC := HC2
          clear HC2
          refine wpAnyH_take (i := 9) (v := .tuple #[.agg #[.int .i64 Y.k, .string Y.t, .slice b1 Y.l.length e1, .slice b2 Y.p.length e2, .slice b3 Y.s.length e3], .agg #[.int .i64 rk, .string rt, .int .i64 rn, .slice none 0 0], .int .i64 E]) rfl (by kernel_rfl) (by kernel_rfl) (by kernel_rfl) (fun _ _ _ h => h) (Or.inl ⟨by kernel_rfl, by intro w hSw; (try dsimp only at hSw); go_simp⟩) (by assumption) ?_
          refine wpAnyH_take (i := 10) (v := .agg #[.int .i64 Y.k, .string Y.t, .slice b1 Y.l.length e1, .slice b2 Y.p.length e2, .slice b3 Y.s.length e3]) rfl (by kernel_rfl) (by kernel_rfl) (by kernel_rfl) (fun _ _ _ h => h) (Or.inl ⟨by kernel_rfl, by intro w hSw; (try dsimp only at hSw); go_simp⟩) (by assumption) ?_
          refine wpAnyH_take (i := 11) (v := .agg #[.int .i64 rk, .string rt, .int .i64 rn, .slice none 0 0]) rfl (by kernel_rfl) (by kernel_rfl) (by kernel_rfl) (fun _ _ _ h => h) (Or.inl ⟨by kernel_rfl, by intro w hSw; (try dsimp only at hSw); go_simp⟩) (by assumption) ?_
          refine wpAnyH_take (i := 12) (v := .int .i64 E) rfl (by kernel_rfl) (by kernel_rfl) (by kernel_rfl) (fun _ _ _ h => h) (Or.inl ⟨by kernel_rfl, by intro w hSw; (try dsimp only at hSw); go_simp⟩) (by assumption) ?_
          have HYY : Hid (∀ w', (∀ k, k < W31.heap.size → k ≠ W27.heap.size → k ≠ W0.heap.size → w'.heap[k]? = W31.heap[k]?) → ItemIs w' (.agg #[.int .i64 Y.k, .string Y.t, .slice b1 Y.l.length e1, .slice b2 Y.p.length e2, .slice b3 Y.s.length e3]) Y) := fun w' hag => HY.out w' (fun k h1 h2 => hag k h2 (by have := HLB.out; omega) (by have := HLC.out; omega))
          clear HY HLA HLB HLC
          have hA := HA.out
          have hC := HC.out
          have hAC : ¬ W27.heap.size = W0.heap.size := fun h => by rw [h, hC] at hA; simp at hA
          have HP := hide (put5Q hA (.int .i64 Y.k) (.string Y.t) (.slice b1 Y.l.length e1) (.slice b2 Y.p.length e2) (.slice b3 Y.s.length e3))
          have m0 : W31.cell? ⟨W27.heap.size, 0, none⟩ = some (.int .i64 0) := by simp [World.cell?, hA]
          have n0 : W31.frozen? ⟨W27.heap.size, 0, none⟩ = false := by simp [World.frozen?, hA]
          have m1 : W31.cell? ⟨W27.heap.size, 1, none⟩ = some (.string ⟨#[]⟩) := by simp [World.cell?, hA]
          have n1 : W31.frozen? ⟨W27.heap.size, 1, none⟩ = false := by simp [World.frozen?, hA]
          have m2 : W31.cell? ⟨W27.heap.size, 2, none⟩ = some (.slice none 0 0) := by simp [World.cell?, hA]
          have n2 : W31.frozen? ⟨W27.heap.size, 2, none⟩ = false := by simp [World.frozen?, hA]
          have m3 : W31.cell? ⟨W27.heap.size, 3, none⟩ = some (.slice none 0 0) := by simp [World.cell?, hA]
          have n3 : W31.frozen? ⟨W27.heap.size, 3, none⟩ = false := by simp [World.frozen?, hA]
          have m4 : W31.cell? ⟨W27.heap.size, 4, none⟩ = some (.slice none 0 0) := by simp [World.cell?, hA]
          have n4 : W31.frozen? ⟨W27.heap.size, 4, none⟩ = false := by simp [World.frozen?, hA]
          have HL0 : Hid (w.heap.size < W27.heap.size ∧ w.heap.size < W0.heap.size) := ⟨HGA.out, HGC.out⟩
          clear hA hC
          refine wpAnyH_ready (rs := [15]) (by kernel_rfl) (by simp) ?_
          refine AllReadyH.cons rfl (fun K hK => ?_) (AllReadyH.nil)
          · go_simp
            obtain ⟨hH, hKp⟩ := HP.out
            generalize (((((W31.setCell ⟨W27.heap.size, 0, none⟩ (.int .i64 Y.k)).setCell ⟨W27.heap.size, 1, none⟩ (.string Y.t)).setCell ⟨W27.heap.size, 2, none⟩ (.slice b1 Y.l.length e1)).setCell ⟨W27.heap.size, 3, none⟩ (.slice b2 Y.p.length e2)).setCell ⟨W27.heap.size, 4, none⟩ (.slice b3 Y.s.length e3)) = WA at *
            have HB2 : Hid (Below w.heap.size w WA) := HB.out.trans (hKp.below (B := w.heap.size) (by have := HB.out.size; omega) (fun k hk => by simp only [one] at hk; have := HL0.out; omega))
            have hCC := (hKp.block _ (Array.getElem?_eq_some_iff.1 HC.out).1 (by simp only [one]; omega)).trans HC.out
            have hRR := (hKp.block _ (Array.getElem?_eq_some_iff.1 HR.out).1 (by simp only [one]; have := HL0.out; omega)).trans HR.out
            have HK1 := hide hKp
            have HAA := hide hH
            refine hK.out _ _ (HX.out _ HB2.out) (fun hHeld2 => ?_)
            clear hK K m0 m1 m2 m3 m4 n0 n1 n2 n3 n4 hH hKp
            have HQ := hide (put4R hCC (.int .i64 rk) (.string rt) (.int .i64 rn) (.slice none 0 0))
            have m0 : WA.cell? ⟨W0.heap.size, 0, none⟩ = some (.int .i64 0) := by simp [World.cell?, hCC]
            have n0 : WA.frozen? ⟨W0.heap.size, 0, none⟩ = false := by simp [World.frozen?, hCC]
            have m1 : WA.cell? ⟨W0.heap.size, 1, none⟩ = some (.string ⟨#[]⟩) := by simp [World.cell?, hCC]
            have n1 : WA.frozen? ⟨W0.heap.size, 1, none⟩ = false := by simp [World.frozen?, hCC]
            have m2 : WA.cell? ⟨W0.heap.size, 2, none⟩ = some (.int .i64 0) := by simp [World.cell?, hCC]
            have n2 : WA.frozen? ⟨W0.heap.size, 2, none⟩ = false := by simp [World.frozen?, hCC]
            have m3 : WA.cell? ⟨W0.heap.size, 3, none⟩ = some (.slice none 0 0) := by simp [World.cell?, hCC]
            have n3 : WA.frozen? ⟨W0.heap.size, 3, none⟩ = false := by simp [World.frozen?, hCC]
            have HRR := hide hRR
            clear hCC hRR
            refine wpAnyH_ready (rs := [16]) (by kernel_rfl) (by simp) ?_
            refine AllReadyH.cons rfl (fun K hK => ?_) (AllReadyH.nil)
            · go_simp
              obtain ⟨hH, hKp⟩ := HQ.out
              generalize ((((WA.setCell ⟨W0.heap.size, 0, none⟩ (.int .i64 rk)).setCell ⟨W0.heap.size, 1, none⟩ (.string rt)).setCell ⟨W0.heap.size, 2, none⟩ (.int .i64 rn)).setCell ⟨W0.heap.size, 3, none⟩ (.slice none 0 0)) = WB at *
              have HB3 : Hid (Below w.heap.size w WB) := HB2.out.trans (hKp.below (B := w.heap.size) (by have := HB2.out.size; omega) (fun k hk => by simp only [one] at hk; have := HL0.out; omega))
              refine hK.out _ _ (HX.out _ HB3.out) (fun hHeld3 => ?_)
              clear hK K m0 m1 m2 m3 n0 n1 n2 n3
              refine wpAnyH_take (i := 17) (v := .int .i64 E) rfl (by kernel_rfl) (by kernel_rfl) (by kernel_rfl) (fun _ _ _ h => h) (Or.inl ⟨by kernel_rfl, by intro w hSw; (try dsimp only at hSw); go_simp⟩) (by assumption) ?_
              refine wpAnyH_done (by kernel_rfl) ?_ _
              refine HT.out HB3.out ((hKp.block _ (Array.getElem?_eq_some_iff.1 HRR.out).1 (by simp only [one]; have := HL0.out; omega)).trans HRR.out) ((hKp.block _ (Array.getElem?_eq_some_iff.1 HAA.out).1 (by simp only [one]; omega)).trans HAA.out) hH (HYY.out WB (fun k h1 h2 h3 => (hKp.block k (Nat.lt_of_lt_of_le h1 HK1.out.size) (by simp only [one]; omega)).trans (HK1.out.block k h1 (by simp only [one]; omega)))) HL0.out.1 HL0.out.2
    · go_simp
      have HGA : Hid (w.heap.size < W26.heap.size) := (Array.getElem?_eq_some_iff.1 HR.out).1
      obtain ⟨W32, hW, hb, hN⟩ : ∃ V', W26.alloc (.cells #[.int .i64 0, .string ⟨#[]⟩, .slice none 0 0, .slice none 0 0, .slice none 0 0] 40) = V' ∧ Below W26.heap.size W26 V' ∧ V'.heap[W26.heap.size]? = some (.cells #[.int .i64 0, .string ⟨#[]⟩, .slice none 0 0, .slice none 0 0, .slice none 0 0] 40 (0, 0)) := ⟨_, rfl, (Below.refl _ W26).alloc (Nat.le_refl _) _, by show (W26.heap.push _)[W26.heap.size]? = _; simp⟩
      rw [hW]
      have HA2 := hide hN
      have HR2 := hide ((hb.block _ (Array.getElem?_eq_some_iff.1 HR.out).1).trans HR.out)
      have HB2 : Hid (Below w.heap.size w W32) := HB.out.trans (hb.mono HB.out.size)
      have HC2 := hide ((hb.block _ (Array.getElem?_eq_some_iff.1 HC.out).1).trans HC.out)
      clear hb hN hW hHeld
      refine hK.out _ _ (HX.out _ HB2.out) (fun hHeld => ?_)
      clear hK K
      replace HR := HR2
      replace HB := HB2
      clear HR2 HB2
      have HA := HA2
      clear HA2
      replace HC := HC2
      clear HC2
      refine wpAnyH_ready (rs := [5]) (by kernel_rfl) (by simp) ?_
      refine AllReadyH.cons rfl (fun K hK => ?_) (AllReadyH.nil)
      · go_simp
        refine (HI.out _ HB.out).mono ?_
        rintro e W33 ⟨⟨v, rfl, hi⟩, hb⟩
        obtain ⟨a1, c1, a2, c2, a3, c3, rfl⟩ := shapeE hi
        have HV := hide hi
        have HR2 := hide ((hb.block _ (Array.getElem?_eq_some_iff.1 HR.out).1).trans HR.out)
        have HB2 : Hid (Below w.heap.size w W33) := HB.out.trans (hb.mono HB.out.size)
        have HA2 := hide ((hb.block _ (Array.getElem?_eq_some_iff.1 HA.out).1).trans HA.out)
        have HC2 := hide ((hb.block _ (Array.getElem?_eq_some_iff.1 HC.out).1).trans HC.out)
        clear hb hi hHeld
        refine hK.out _ _ (HX.out _ HB2.out) (fun hHeld => ?_)
        clear hK K
        replace HR := HR2
        replace HB := HB2
        clear HR2 HB2
        replace HA := HA2
        clear HA2
        replace HC := HC2
        clear HC2
        refine wpAnyH_ready (rs := [8]) (by kernel_rfl) (by simp) ?_
        refine AllReadyH.cons rfl (fun K hK => ?_) (AllReadyH.nil)
        · go_simp
          refine (HFF.out _ _ HB.out HV.out).mono ?_
          rintro e W34 ⟨⟨u, rfl, hy⟩, hb⟩
          obtain ⟨b1, e1, b2, e2, b3, e3, rfl⟩ := shapeE hy.at
          have HY : Hid (ItFrom W33.heap.size W34 _ Y) := hy
          have HLA : Hid (W33.heap.size ≤ W34.heap.size) := hb.size
          have HLB : Hid (W26.heap.size < W33.heap.size) := (Array.getElem?_eq_some_iff.1 HA.out).1
          have HLC : Hid (W0.heap.size < W33.heap.size) := (Array.getElem?_eq_some_iff.1 HC.out).1
          have HR2 := hide ((hb.block _ (Array.getElem?_eq_some_iff.1 HR.out).1).trans HR.out)
          have HB2 : Hid (Below w.heap.size w W34) := HB.out.trans (hb.mono HB.out.size)
          have HA2 := hide ((hb.block _ (Array.getElem?_eq_some_iff.1 HA.out).1).trans HA.out)
          have HC2 := hide ((hb.block _ (Array.getElem?_eq_some_iff.1 HC.out).1).trans HC.out)
          clear hb hy hHeld HV
          refine hK.out _ _ (HX.out _ HB2.out) (fun hHeld => ?_)
          clear hK K
          replace HR := HR2
          replace HB := HB2
          clear HR2 HB2
          replace HA := HA2
          clear HA2
          replace HC := HC2
          clear HC2
          refine wpAnyH_take (i := 9) (v := .tuple #[.agg #[.int .i64 Y.k, .string Y.t, .slice b1 Y.l.length e1, .slice b2 Y.p.length e2, .slice b3 Y.s.length e3], .agg #[.int .i64 rk, .string rt, .int .i64 rn, .slice none 0 0], .int .i64 E]) rfl (by kernel_rfl) (by kernel_rfl) (by kernel_rfl) (fun _ _ _ h => h) (Or.inl ⟨by kernel_rfl, by intro w hSw; (try dsimp only at hSw); go_simp⟩) (by assumption) ?_
          refine wpAnyH_take (i := 10) (v := .agg #[.int .i64 Y.k, .string Y.t, .slice b1 Y.l.length e1, .slice b2 Y.p.length e2, .slice b3 Y.s.length e3]) rfl (by kernel_rfl) (by kernel_rfl) (by kernel_rfl) (fun _ _ _ h => h) (Or.inl ⟨by kernel_rfl, by intro w hSw; (try dsimp only at hSw); go_simp⟩) (by assumption) ?_
          refine wpAnyH_take (i := 11) (v := .agg #[.int .i64 rk, .string rt, .int .i64 rn, .slice none 0 0]) rfl (by kernel_rfl) (by kernel_rfl) (by kernel_rfl) (fun _ _ _ h => h) (Or.inl ⟨by kernel_rfl, by intro w hSw; (try dsimp only at hSw); go_simp⟩) (by assumption) ?_
          refine wpAnyH_take (i := 12) (v := .int .i64 E) rfl (by kernel_rfl) (by kernel_rfl) (by kernel_rfl) (fun _ _ _ h => h) (Or.inl ⟨by kernel_rfl, by intro w hSw; (try dsimp only at hSw); go_simp⟩) (by assumption) ?_
          have HYY : Hid (∀ w', (∀ k, k < W34.heap.size → k ≠ W26.heap.size → k ≠ W0.heap.size → w'.heap[k]? = W34.heap[k]?) → ItemIs w' (.agg #[.int .i64 Y.k, .string Y.t, .slice b1 Y.l.length e1, .slice b2 Y.p.length e2, .slice b3 Y.s.length e3]) Y) := fun w' hag => HY.out w' (fun k h1 h2 => hag k h2 (by have := HLB.out; omega) (by have := HLC.out; omega))
          clear HY HLA HLB HLC
          have hA := HA.out
          have hC := HC.out
          have hAC : ¬ W26.heap.size = W0.heap.size := fun h => by rw [h, hC] at hA; simp at hA
          have HP := hide (put5Q hA (.int .i64 Y.k) (.string Y.t) (.slice b1 Y.l.length e1) (.slice b2 Y.p.length e2) (.slice b3 Y.s.length e3))
          have m0 : W34.cell? ⟨W26.heap.size, 0, none⟩ = some (.int .i64 0) := by simp [World.cell?, hA]
          have n0 : W34.frozen? ⟨W26.heap.size, 0, none⟩ = false := by simp [World.frozen?, hA]
          have m1 : W34.cell? ⟨W26.heap.size, 1, none⟩ = some (.string ⟨#[]⟩) := by simp [World.cell?, hA]
          have n1 : W34.frozen? ⟨W26.heap.size, 1, none⟩ = false := by simp [World.frozen?, hA]
          have m2 : W34.cell? ⟨W26.heap.size, 2, none⟩ = some (.slice none 0 0) := by simp [World.cell?, hA]
          have n2 : W34.frozen? ⟨W26.heap.size, 2, none⟩ = false := by simp [World.frozen?, hA]
          have m3 : W34.cell? ⟨W26.heap.size, 3, none⟩ = some (.slice none 0 0) := by simp [World.cell?, hA]
          have n3 : W34.frozen? ⟨W26.heap.size, 3, none⟩ = false := by simp [World.frozen?, hA]
          have m4 : W34.cell? ⟨W26.heap.size, 4, none⟩ = some (.slice none 0 0) := by simp [World.cell?, hA]
          have n4 : W34.frozen? ⟨W26.heap.size, 4, none⟩ = false := by simp [World.frozen?, hA]
          have HL0 : Hid (w.heap.size < W26.heap.size ∧ w.heap.size < W0.heap.size) := ⟨HGA.out, HGC.out⟩
          clear hA hC
          refine wpAnyH_ready (rs := [15]) (by kernel_rfl) (by simp) ?_
          refine AllReadyH.cons rfl (fun K hK => ?_) (AllReadyH.nil)
          · go_simp
            obtain ⟨hH, hKp⟩ := HP.out
            generalize (((((W34.setCell ⟨W26.heap.size, 0, none⟩ (.int .i64 Y.k)).setCell ⟨W26.heap.size, 1, none⟩ (.string Y.t)).setCell ⟨W26.heap.size, 2, none⟩ (.slice b1 Y.l.length e1)).setCell ⟨W26.heap.size, 3, none⟩ (.slice b2 Y.p.length e2)).setCell ⟨W26.heap.size, 4, none⟩ (.slice b3 Y.s.length e3)) = WA at *
            have HB2 : Hid (Below w.heap.size w WA) := HB.out.trans (hKp.below (B := w.heap.size) (by have := HB.out.size; omega) (fun k hk => by simp only [one] at hk; have := HL0.out; omega))
            have hCC := (hKp.block _ (Array.getElem?_eq_some_iff.1 HC.out).1 (by simp only [one]; omega)).trans HC.out
            have hRR := (hKp.block _ (Array.getElem?_eq_some_iff.1 HR.out).1 (by simp only [one]; have := HL0.out; omega)).trans HR.out
            have HK1 := hide hKp
            have HAA := hide hH
            refine hK.out _ _ (HX.out _ HB2.out) (fun hHeld2 => ?_)
            clear hK K m0 m1 m2 m3 m4 n0 n1 n2 n3 n4 hH hKp
            have HQ := hide (put4R hCC (.int .i64 rk) (.string rt) (.int .i64 rn) (.slice none 0 0))
            have m0 : WA.cell? ⟨W0.heap.size, 0, none⟩ = some (.int .i64 0) := by simp [World.cell?, hCC]
            have n0 : WA.frozen? ⟨W0.heap.size, 0, none⟩ = false := by simp [World.frozen?, hCC]
            have m1 : WA.cell? ⟨W0.heap.size, 1, none⟩ = some (.string ⟨#[]⟩) := by simp [World.cell?, hCC]
            have n1 : WA.frozen? ⟨W0.heap.size, 1, none⟩ = false := by simp [World.frozen?, hCC]
            have m2 : WA.cell? ⟨W0.heap.size, 2, none⟩ = some (.int .i64 0) := by simp [World.cell?, hCC]
            have n2 : WA.frozen? ⟨W0.heap.size, 2, none⟩ = false := by simp [World.frozen?, hCC]
            have m3 : WA.cell? ⟨W0.heap.size, 3, none⟩ = some (.slice none 0 0) := by simp [World.cell?, hCC]
            have n3 : WA.frozen? ⟨W0.heap.size, 3, none⟩ = false := by simp [World.frozen?, hCC]
            have HRR := hide hRR
            clear hCC hRR
            refine wpAnyH_ready (rs := [16]) (by kernel_rfl) (by simp) ?_
            refine AllReadyH.cons rfl (fun K hK => ?_) (AllReadyH.nil)
            · go_simp
              obtain ⟨hH, hKp⟩ := HQ.out
              generalize ((((WA.setCell ⟨W0.heap.size, 0, none⟩ (.int .i64 rk)).setCell ⟨W0.heap.size, 1, none⟩ (.string rt)).setCell ⟨W0.heap.size, 2, none⟩ (.int .i64 rn)).setCell ⟨W0.heap.size, 3, none⟩ (.slice none 0 0)) = WB at *
              have HB3 : Hid (Below w.heap.size w WB) := HB2.out.trans (hKp.below (B := w.heap.size) (by have := HB2.out.size; omega) (fun k hk => by simp only [one] at hk; have := HL0.out; omega))
              refine hK.out _ _ (HX.out _ HB3.out) (fun hHeld3 => ?_)
              clear hK K m0 m1 m2 m3 n0 n1 n2 n3
              refine wpAnyH_take (i := 17) (v := .int .i64 E) rfl (by kernel_rfl) (by kernel_rfl) (by kernel_rfl) (fun _ _ _ h => h) (Or.inl ⟨by kernel_rfl, by intro w hSw; (try dsimp only at hSw); go_simp⟩) (by assumption) ?_
              refine wpAnyH_done (by kernel_rfl) ?_ _
              refine HT.out HB3.out ((hKp.block _ (Array.getElem?_eq_some_iff.1 HRR.out).1 (by simp only [one]; have := HL0.out; omega)).trans HRR.out) ((hKp.block _ (Array.getElem?_eq_some_iff.1 HAA.out).1 (by simp only [one]; omega)).trans HAA.out) hH (HYY.out WB (fun k h1 h2 h3 => (hKp.block k (Nat.lt_of_lt_of_le h1 HK1.out.size) (by simp only [one]; omega)).trans (HK1.out.block k h1 (by simp only [one]; omega)))) HL0.out.1 HL0.out.2
end Go.Proofs.YtmaancidkpfopaaGreatDoor

