/- WALK of the closure that feeds. -/
import Derived.Test.YtolpmaapdkhigaaDoorPlain1
import Derived.Deep.RegionHeld3
import Derived.Deep.AppendLies
namespace Go.Proofs.YtolpmaapdkhigaaDoor
open Go.RowKit

/-- the blocks that the closure writes -/
def three (b c t : Nat) : Nat → Prop := fun k => k = b ∨ k = c ∨ k = t

/-- V is a slice of the call's own that holds these commands, each a slice of the call's own -/
def Cmds (base : Nat) (w : World) (V : Value) (L : List (List (List UInt8))) : Prop :=
  ∃ vs : List Value, w.ownsRow base 42 1 V L.length vs ∧ ∀ i (h : i < L.length), ∃ v, vs[i]? = some v ∧ w.ownsRow base 9 1 v L[i].length (L[i].map str)

theorem Cmds.kept {S : Nat → Prop} {base : Nat} {w w' : World} {V : Value} {L : List (List (List UInt8))} (h : Cmds base w V L) (hk : Kept S w w') (hS : ∀ k, S k → k < base) : Cmds base w' V L := by
  obtain ⟨vs, h1, h2⟩ := h
  refine ⟨vs, hk.owns h1 (fun k hv hs => by have := (h1.lt k hv).1; have := hS k hs; omega), fun i hi => ?_⟩
  obtain ⟨v, h3, h4⟩ := h2 i hi
  exact ⟨v, h3, hk.owns h4 (fun k hv hs => by have := (h4.lt k hv).1; have := hS k hs; omega)⟩

theorem Cmds.nil (base : Nat) (w : World) : Cmds base w (.slice none 0 0) [] := ⟨[], World.ownsRow_nil _ _ _ _, fun i hi => by simp at hi⟩

theorem owns_apart {w : World} {b1 b2 e1 e2 s1 s2 : Nat} {v1 v2 : Value} {n1 n2 : Nat} {x1 x2 : List Value} (h1 : w.ownsRow b1 e1 s1 v1 n1 x1) (h2 : w.ownsRow b2 e2 s2 v2 n2 x2) (he : e1 ≠ e2) :
    v1.ownBlock = none ∨ v1.ownBlock ≠ v2.ownBlock := by
  rcases h1.2 with ⟨rfl, _⟩ | ⟨g, cap, cur, rfl, _, hg, _⟩
  · exact .inl rfl
  · right
    rcases h2.2 with ⟨rfl, _⟩ | ⟨g2, cap2, cur2, rfl, _, hg2, _⟩
    · simp [Value.ownBlock]
    · simp only [Value.ownBlock, ne_eq, Option.some.injEq]
      rintro rfl
      rw [hg] at hg2
      simp at hg2
      exact he hg2.2

theorem Cmds.push {base : Nat} {w w' : World} {V V' : Value} {L : List (List (List UInt8))} {ws : List (List UInt8)} {v : Value} {vs : List Value}
    (h2 : ∀ i (h : i < L.length), ∃ v, vs[i]? = some v ∧ w.ownsRow base 9 1 v L[i].length (L[i].map str))
    (hV : w.ownsRow base 42 1 V L.length vs) (hv : w.ownsRow base 9 1 v ws.length (ws.map str))
    (hg : w.grownBy w' V.ownBlock) (hV' : w'.ownsRow base 42 1 V' (L.length + 1) (vs ++ [v])) : Cmds base w' V' (L ++ [ws]) := by
  have hvl : vs.length = L.length := by simpa using hV.1
  refine ⟨vs ++ [v], by simpa using hV', fun i hi => ?_⟩
  by_cases hlt : i < L.length
  · obtain ⟨u, h3, h4⟩ := h2 i hlt
    refine ⟨u, ?_, ?_⟩
    · rw [List.getElem?_append_left (by omega)]; exact h3
    · rw [List.getElem_append_left hlt]
      exact h4.kept hg (owns_apart h4 hV (by decide))
  · have hil : i = L.length := by simp at hi; omega
    subst hil
    refine ⟨v, ?_, ?_⟩
    · rw [List.getElem?_append_right (by omega)]; simp [hvl]
    · simp only [List.getElem_append_right (Nat.le_refl _), Nat.sub_self, List.getElem_cons_zero]
      exact hv.kept hg (owns_apart hv hV (by decide))

theorem info36 : (Tryd.prog.info? 42).map (fun i => (i.zero, i.size, i.bytes)) = some (some (.slice none 0 0), 1, 24) := by kernel_rfl

theorem ownsRow_base {w : World} {b1 b2 e s : Nat} {v : Value} {n : Nat} {xs : List Value} (h : w.ownsRow b1 e s v n xs) (hb : b2 ≤ b1) : w.ownsRow b2 e s v n xs := by
  refine ⟨h.1, ?_⟩
  rcases h.2 with hn | ⟨g, cap, cur, hv, hb1, rest⟩
  · exact .inl hn
  · exact .inr ⟨g, cap, cur, hv, by omega, rest⟩

theorem Kept.undrew {S : Nat → Prop} {w w' : World} {n : Nat} (h : Kept S (w.drewN n) w') : Kept S w w' := ⟨h.os, h.tape, h.output, h.size, h.block⟩

theorem low_kept {b base : Nat} {wr w1 w2 : World} {V : Value} {o : Obj} (hk1 : Kept (one b) wr w1) (hg : (w1.alloc o).grownBy w2 V.ownBlock) (hV : ∀ k, V.ownBlock = some k → base ≤ k) :
    Kept (fun k => k = b ∨ base ≤ k) wr w2 := by
  have h1 : Kept (fun k => k = b ∨ base ≤ k) wr (w1.alloc o) := (hk1.mono (fun k _ e => .inl e)).alloc o
  exact h1.grown hg (fun k hk => .inl (.inr (hV k hk)))

theorem shapes {w : World} {b e s : Nat} {v : Value} {n : Nat} {xs : List Value} (h : w.ownsRow b e s v n xs) : ∃ ao cp, v = .slice ao n cp := by
  rcases h.2 with ⟨rfl, rfl⟩ | ⟨g, cap, cur, rfl, _⟩
  · exact ⟨_, _, rfl⟩
  · exact ⟨_, _, rfl⟩

set_option maxRecDepth 100000 in
set_option maxHeartbeats 1000000 in
theorem feedLoop_any (pw pc pt b : Nat) (s : ByteArray) (l : List UInt8) (w : World) (h : AtL b s l w) (hs : s.size ≤ 33554432)
    (hpw : w.cell? ⟨pw, 0, none⟩ = some (.pointer (some ⟨b, 0, none⟩))) (hpc : w.cell? ⟨pc, 0, none⟩ = some (.slice none 0 0)) (hpt : w.cell? ⟨pt, 0, none⟩ = some (.int .i64 ((s.size - l.length : Nat) : Int)))
    (hfc : w.frozen? ⟨pc, 0, none⟩ = false) (hft : w.frozen? ⟨pt, 0, none⟩ = false)
    (d1 : pw ≠ b) (d2 : pc ≠ b) (d3 : pt ≠ b) (d4 : pw ≠ pc) (d5 : pw ≠ pt) (d6 : pc ≠ pt) :
    Calls Tryd.prog 31 #[.pointer (some ⟨pw, 0, none⟩), .pointer (some ⟨pc, 0, none⟩), .pointer (some ⟨pt, 0, none⟩)] w fun e w' => Kept (three b pc pt) w w' ∧
      ∃ V, w'.cell? ⟨pc, 0, none⟩ = some V ∧ Cmds w.heap.size w' V (pFeed l).1 ∧ w'.cell? ⟨pt, 0, none⟩ = some (.int .i64 ((s.size - (pFeed l).2.1.length : Nat) : Int)) ∧
        ((pFeed l).2.2 = 0 → e = .returned (.tuple #[])) ∧ (∀ n, n ≠ 0 → (pFeed l).2.2 = n → e = .panicked [{ v := .iface 66 (.agg #[.int .i64 (n)]), recovered := false }]) := by
  obtain ⟨i0, hi, hz0, hz1, hz2⟩ := info_parts info36
  have hbw := h.lt
  have hpcl := World.block_lt_of_cell? w _ hpc
  have hptl := World.block_lt_of_cell? w _ hpt
  have hpwl := World.block_lt_of_cell? w _ hpw
  simp only at hpcl hptl hpwl
  go_enter Tryd.func31, Tryd.ntmps31
  go_wp2_with fail
  go_loopw [3] (fun _ wr => ∃ (acc : List (List (List UInt8))) (q : List UInt8) (V : Value), AtL b s q wr ∧ Kept (three b pc pt) w wr ∧ wr.cell? ⟨pc, 0, none⟩ = some V ∧ Cmds w.heap.size wr V acc ∧ wr.frozen? ⟨pc, 0, none⟩ = false ∧ wr.frozen? ⟨pt, 0, none⟩ = false ∧
      wr.cell? ⟨pt, 0, none⟩ = some (.int .i64 ((s.size - q.length : Nat) : Int)) ∧ acc.length + q.length ≤ s.size ∧ Hid (pFeed l = joinF acc (pFeed q))) (fun _ wr => leftOf b s wr)
  case atStart => exact ⟨[], l, _, h, Kept.refl _ _, hpc, Cmds.nil _ _, hfc, hft, hpt, by simpa using h.len, by simp [Hid, joinF]⟩
  case round =>
    obtain ⟨acc, q, V, hq, hkq, hcV, hV, hfc', hft', hct, hac, HP⟩ := hrel
    have hcw : wr.cell? ⟨pw, 0, none⟩ = some (.pointer (some ⟨b, 0, none⟩)) := hkq.cell' hpw (fun e => by simp only [three] at e; omega)
    clear hpw hpc hpt hfc hft h
    cases q with
    | nil =>
      go_wp2_with (go_at_call 32; refine (done_nil _ _ _ hq).mono ?_; rintro e w' ⟨rfl, nd, rfl⟩)
      go_end0
      have hj : pFeed l = (acc, [], 0) := by rw [HP.out, pFeed_nil]; simp [joinF]
      rw [hj]
      exact ⟨hkq.drewN nd, V, hcV, hV.kept (S := fun _ => False) ((Kept.refl _ _).drewN nd) (fun _ x => x.elim), by simpa using hct, fun _ => rfl, fun n hn h0 => absurd h0.symm hn⟩
    | cons c q =>
      have hln : (c :: q).length ≤ s.size := hq.len
      cases hp : pCommand (c :: q) with
      | error x =>
        have hx := pCommand_err hp
        have hj : pFeed l = (acc, c :: q, x) := by rw [HP.out, pFeed_err (by simp) hp]; simp [joinF]
        have HJ := hide hj
        clear hj HP
        have HC := hide hct
        clear hct
        have fin : ∀ (w1 w2 : World), Kept (fun _ => False) wr w1 → Kept (one b) w1 w2 → (Kept (three b pc pt) w w2 ∧
            ∃ V, w2.cell? ⟨pc, 0, none⟩ = some V ∧ Cmds w.heap.size w2 V (pFeed l).1 ∧ w2.cell? ⟨pt, 0, none⟩ = some (.int .i64 ((s.size - (pFeed l).2.1.length : Nat) : Int)) ∧
              ((pFeed l).2.2 = 0 → Ending.panicked [{ v := .iface 66 (.agg #[.int .i64 (x : Int)]), recovered := false }] = .returned (.tuple #[])) ∧
              (∀ n, n ≠ 0 → (pFeed l).2.2 = n → Ending.panicked [{ v := .iface 66 (.agg #[.int .i64 (x : Int)]), recovered := false }] = .panicked [{ v := .iface 66 (.agg #[.int .i64 (n)]), recovered := false }])) := by
          intro w1 w2 k1 k2
          rw [HJ.out]
          have k12 : Kept (one b) wr w2 := (k1.mono (fun _ _ e => e.elim)).trans k2
          refine ⟨hkq.trans (k12.mono (fun _ _ e => .inl e)), V, k12.cell' hcV d2, hV.kept k12 (fun k e => by simp only [one] at e; omega), k12.cell' HC.out d3, fun h0 => ?_, fun n _ hn => by simp only at hn; subst hn; rfl⟩
          simp only at h0
          omega
        have FIN := hide fin
        clear fin
        go_wp2_with (go_at_call 32; refine (done_cons _ _ _ _ _ hq).mono ?_; rintro e w' ⟨rfl, nd, rfl⟩)
        refine wp_region_any (by kernel_rfl) ?_
        change wpAny _ _ _ _ _ _ _ (World.drew _)
        refine wpAny_ready (rs := [0, 1]) (by kernel_rfl) (by simp) ?_
        refine AllReady.cons rfl (fun K hK => ?_) ?_
        · go_simp
          refine hK _ _ ?_
          clear hK K
          refine wpAny_ready (rs := [1]) (by kernel_rfl) (by simp) ?_
          refine AllReady.cons rfl (fun K hK => ?_) AllReady.nil
          go_simp
          refine hK _ _ ?_
          clear hK K
          refine wpAny_ready (rs := [2]) (by kernel_rfl) (by simp) ?_
          refine AllReady.cons rfl (fun K hK => ?_) AllReady.nil
          go_simp
          refine (command_err b s (c :: q) x _ (hq.drewN (nd + 1)) (by omega) hp).mono ?_
          rintro e w2 ⟨rfl, hk2⟩
          exact ⟨rfl, FIN.out _ w2 ((Kept.refl _ _).drewN (nd + 1)) hk2⟩
        · refine AllReady.cons rfl (fun K hK => ?_) AllReady.nil
          go_simp
          refine hK _ _ ?_
          clear hK K
          refine wpAny_ready (rs := [0, 2]) (by kernel_rfl) (by simp) ?_
          refine AllReady.cons rfl (fun K hK => ?_) ?_
          · go_simp
            refine hK _ _ ?_
            clear hK K
            refine wpAny_ready (rs := [2]) (by kernel_rfl) (by simp) ?_
            refine AllReady.cons rfl (fun K hK => ?_) AllReady.nil
            go_simp
            refine (command_err b s (c :: q) x _ (hq.drewN (nd + 1)) (by omega) hp).mono ?_
            rintro e w2 ⟨rfl, hk2⟩
            exact ⟨rfl, FIN.out _ w2 ((Kept.refl _ _).drewN (nd + 1)) hk2⟩
          · refine AllReady.cons rfl (fun K hK => ?_) AllReady.nil
            go_simp
            refine (command_err b s (c :: q) x _ (hq.drewN (nd + 1)) (by omega) hp).mono ?_
            rintro e w2 ⟨rfl, hk2⟩
            exact ⟨rfl, FIN.out _ w2 ((Kept.refl _ _).drewN (nd + 1)) hk2⟩
      | ok p =>
        obtain ⟨ws, r⟩ := p
        have hrl := (pCommand_suffix hp).1
        obtain ⟨vs, hVo, hVi⟩ := hV
        have HVI := hide hVi
        clear hVi
        have HP2 : Hid (pFeed l = joinF (acc ++ [ws]) (pFeed r)) := HP.out.trans (joinF_ok (by simp) hp)
        clear HP
        have hszr := hkq.size
        go_wp2_with (go_at_call 32; refine (done_cons _ _ _ _ _ hq).mono ?_; rintro e w' ⟨rfl, nd, rfl⟩)
        go_region_law (first
          | (refine step_append_lies _ (by rfl) _ _ 36 (by rfl) w.heap.size 42 i0 (.slice none 0 0) 1 24 Tryd.underlying36 hi hz0 hz1 hz2 rfl (by omega) V acc.length vs (by rfl) (hVo1.alloc _) ⟨w1.heap.size, 0, none⟩ 1 1 [.slice ao ws.length cp] (by rfl) (by rfl) (fun j u hj => by match j, hj with | 0, hj => (simp at hj; subst hj; simp [Addr.add])) (fun u hu => by simp at hu; subst hu; rfl) (by omega) (by unfold maxLen; omega) (by omega) (by simp; omega) (w1.heap.size + 1) (by simp) ?_; intro g cap w2 hown2 hgrow hat hlt2; have hk2 : Kept (fun k => k = b ∨ w.heap.size ≤ k) wr w2 := low_kept hk1.undrew hgrow (fun k hk => (hVo.lt k hk).1); have hcV2 : w2.cell? ⟨pc, 0, none⟩ = some V := hk2.cell' hcV (by simp only; omega); have hfc2 : w2.frozen? ⟨pc, 0, none⟩ = false := (hk2.frozen (p := ⟨pc, 0, none⟩) (World.block_lt_of_cell? _ _ hcV) (by simp only; omega)).trans hfc')
          | (go_simp; refine (command_ok b s (c :: q) ws r _ ?_ (by omega) hp).mono ?_; exact hq.drewN _; rintro e w1 ⟨v, rfl, hv1, ha1, hk1⟩; obtain ⟨ao, cp, rfl⟩ := shapes hv1; have hcV1 : w1.cell? ⟨pc, 0, none⟩ = some V := hk1.cell' hcV d2; have hcV1a : ∀ o, (w1.alloc o).cell? ⟨pc, 0, none⟩ = some V := fun o => ((Kept.refl (fun _ => False) w1).alloc o).cell' hcV1 (fun e => e); have hsz1 : wr.heap.size ≤ w1.heap.size := hk1.size; have hVo1 := hk1.owns hVo (fun k hv hs => by have := (hVo.lt k hv).1; simp only [one] at hs; omega)))
        all_goals
          have hct2 : w2.cell? ⟨pt, 0, none⟩ = some (.int .i64 ((s.size - (c :: q).length : Nat) : Int)) := hk2.cell' hct (by simp only; omega)
          have hft2 : w2.frozen? ⟨pt, 0, none⟩ = false := (hk2.frozen (p := ⟨pt, 0, none⟩) (World.block_lt_of_cell? _ _ hct) (by simp only; omega)).trans hft'
          have hcw2 : w2.cell? ⟨pw, 0, none⟩ = some (.pointer (some ⟨b, 0, none⟩)) := hk2.cell' hcw (by simp only; omega)
          have ha2 : AtL b s r w2 := (ha1.alloc (.cells #[.slice ao ws.length cp] 42)).kept (S := fun j => some j = V.ownBlock) ⟨hgrow.os, hgrow.tape, hgrow.output, hgrow.size, fun j hj hs => hgrow.block j hj hs⟩ (fun e => by have := hVo.lt b e.symm; omega)
          have hC2 : Cmds w.heap.size w2 (.slice (some ⟨g, 0, none⟩) (acc.length + 1) cap) (acc ++ [ws]) := by
            refine Cmds.push (w := w1.alloc (.cells #[.slice ao ws.length cp] 42)) (V := V) (v := .slice ao ws.length cp) (vs := vs) ?_ (hVo1.alloc _) ((ownsRow_base hv1 hszr).alloc _) hgrow hown2
            intro i hi
            obtain ⟨u, hu1, hu2⟩ := HVI.out i hi
            exact ⟨u, hu1, (hk1.owns hu2 (fun k hv hs => by have := (hu2.lt k hv).1; simp only [one] at hs; omega)).alloc _⟩
          have hkw2 : Kept (three b pc pt) w w2 := ((hkq.mono (T := fun k => three b pc pt k ∨ w.heap.size ≤ k) (fun _ _ e => .inl e)).trans (hk2.mono (fun k _ e => by rcases e with e | e; exact .inl (.inl e); exact .inr e))).mono (fun k hk e => by rcases e with e | e; exact e; omega)
          have hkw3 : Kept (three b pc pt) w (w2.setCell ⟨pc, 0, none⟩ (.slice (some ⟨g, 0, none⟩) (acc.length + 1) cap)) := hkw2.setCell (p := ⟨pc, 0, none⟩) (.inl (.inr (.inl rfl))) _
          have hC3 : Cmds w.heap.size (w2.setCell ⟨pc, 0, none⟩ (.slice (some ⟨g, 0, none⟩) (acc.length + 1) cap)) (.slice (some ⟨g, 0, none⟩) (acc.length + 1) cap) (acc ++ [ws]) := hC2.kept (S := one pc) ((Kept.refl _ _).set1 _ _) (fun k e => by simp only [one] at e; omega)
          have hcV3 : (w2.setCell ⟨pc, 0, none⟩ (.slice (some ⟨g, 0, none⟩) (acc.length + 1) cap)).cell? ⟨pc, 0, none⟩ = some (.slice (some ⟨g, 0, none⟩) (acc.length + 1) cap) := World.cell?_setCell_same _ _ _ hcV2
          have hfc3 : (w2.setCell ⟨pc, 0, none⟩ (.slice (some ⟨g, 0, none⟩) (acc.length + 1) cap)).frozen? ⟨pc, 0, none⟩ = false := by simp [hfc2]
          have hct3 : (w2.setCell ⟨pc, 0, none⟩ (.slice (some ⟨g, 0, none⟩) (acc.length + 1) cap)).cell? ⟨pt, 0, none⟩ = some (.int .i64 ((s.size - (c :: q).length : Nat) : Int)) := ((Kept.refl (one pc) _).set1 _ _).cell' hct2 (fun e => d6 e.symm)
          have hft3 : (w2.setCell ⟨pc, 0, none⟩ (.slice (some ⟨g, 0, none⟩) (acc.length + 1) cap)).frozen? ⟨pt, 0, none⟩ = false := by simp [hft2]
          have hcw3 : (w2.setCell ⟨pc, 0, none⟩ (.slice (some ⟨g, 0, none⟩) (acc.length + 1) cap)).cell? ⟨pw, 0, none⟩ = some (.pointer (some ⟨b, 0, none⟩)) := ((Kept.refl (one pc) _).set1 _ _).cell' hcw2 (fun e => d4 e)
          have ha3 : AtL b s r (w2.setCell ⟨pc, 0, none⟩ (.slice (some ⟨g, 0, none⟩) (acc.length + 1) cap)) := ha2.setOther d2 _
          clear hC2 hkw2 hcV2 hfc2 hct2 hft2 hcw2 ha2 hk2 hgrow hat hlt2 hown2 hVo1 hVo HVI hv1 hk1 ha1 hcV1 hcV1a hsz1
          generalize w2.setCell ⟨pc, 0, none⟩ (.slice (some ⟨g, 0, none⟩) (acc.length + 1) cap) = w3 at *
          generalize Value.slice (some ⟨g, 0, none⟩) (acc.length + 1) cap = V3 at *
          go_wp2_with (go_at_call 34; refine (at_any _ _ _ _ ha3.1).mono ?_; rintro e w' ⟨rfl, rfl⟩)
          have ha4 : AtL b s r (w'.setCell ⟨pt, 0, none⟩ (.int .i64 ((s.size - r.length : Nat) : Int))) := ha3.setOther d3 _
          go_roundw
          case rel =>
            refine ⟨acc ++ [ws], r, V3, ha4, hkw3.setCell (p := ⟨pt, 0, none⟩) (.inl (.inr (.inr rfl))) _, ((Kept.refl (one pt) _).set1 _ _).cell' hcV3 (fun e => d6 e), hC3.kept (S := one pt) ((Kept.refl _ _).set1 _ _) (fun k e => by simp only [one] at e; omega), by simp [hfc3], by simp [hft3], World.cell?_setCell_same _ _ _ hct3, ?_, HP2⟩
            simp only [List.length_append, List.length_cons, List.length_nil] at *
            omega
          case measure =>
            rw [ha4.left, hq.left]
            exact hrl
end Go.Proofs.YtolpmaapdkhigaaDoor
