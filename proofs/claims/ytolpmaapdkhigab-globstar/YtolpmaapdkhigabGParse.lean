/- WALKS of the reading of a pattern. -/
import Derived.Test.YtolpmaapdkhigabGPart
import Derived.Test.YtolpmaapdkhigabGRunParse
import Derived.Handy
namespace Go.Proofs.Ytolpmaapdkhigab
open Go.RowKit

theorem infoPart : (Try.prog.info? 85).map (fun i => (i.zero, i.size, i.bytes)) = some (some (.agg #[.bool false, .nilFunc]), 2, 16) := by kernel_rfl
def partRow (ps : List (Value × Part)) : List Value := (ps.map fun x => [Value.bool x.2.many, x.1]).flatten
theorem partRow_snoc (ps : List (Value × Part)) (x : Value × Part) : partRow (ps ++ [x]) = partRow ps ++ [.bool x.2.many, x.1] := by simp [partRow]
theorem FnAt.oneCell {base : Nat} {w : World} {v : Value} {p : Part} (h : FnAt base w v p) : ∃ f caps, v = .func (.func f) #[] caps := by
  cases p with
  | star => exact ⟨_, _, h⟩
  | any => exact ⟨_, _, h⟩
  | lit c => obtain ⟨_, _, h, _⟩ := h; exact ⟨_, _, h⟩
  | cls neg sp => obtain ⟨_, _, _, _, _, _, h, _⟩ := h; exact ⟨_, _, h⟩
/-- the parts of a pattern that lie in memory -/
structure PartsAt (base : Nat) (w : World) (V : Value) (ps : List (Value × Part)) : Prop where
  row : w.ownsRow base 85 2 V ps.length (partRow ps)
  fns : ∀ x ∈ ps, FnAt base w x.1 x.2
def InPost (b bp base : Nat) (l0 : List UInt8) (w : World) (e : Ending) (w' : World) : Prop :=
  Kept (fun j => j = b ∨ j = bp) w w' ∧
    (∀ ps, pParts l0 = .ok ps → e = .returned (.tuple #[]) ∧ ∃ V acc, acc.map Prod.snd = ps ∧ w'.heap[bp]? = some (.cells #[V] 41) ∧ PartsAt base w' V acc ∧ acc.length ≤ 60) ∧
    (∀ n, pParts l0 = .error n → e = .panicked [{ v := .iface 92 (.agg #[.int .i64 (n)]), recovered := false }])
theorem InPost.err {b bp base : Nat} {l : List UInt8} {w w' : World} {x : Nat} (hp : pParts l = .error x) (hk : Kept (fun j => j = b ∨ j = bp) w w') : InPost b bp base l w (.panicked [{ v := .iface 92 (.agg #[.int .i64 (x)]), recovered := false }]) w' :=
  ⟨hk, fun v hx => by rw [hp] at hx; simp at hx, fun n hx => by rw [hp] at hx; simp at hx; subst hx; rfl⟩
theorem part_err (b : Nat) (s : ByteArray) (l : List UInt8) (n : Nat) (w : World) (h : AtL b s l w) (hs : s.size ≤ 60) (hp : pPart l = .error n) :
    Calls Try.prog 46 #[.pointer (some ⟨b, 0, none⟩)] w fun e w' => e = .panicked [{ v := .iface 92 (.agg #[.int .i64 (n)]), recovered := false }] ∧ Kept (one b) w w' :=
  (part_any b s l w h hs).mono fun _ _ ⟨h1, _, h2⟩ => ⟨h2 n hp, h1⟩
theorem part_ok (b : Nat) (s : ByteArray) (l q : List UInt8) (p : Part) (w : World) (h : AtL b s l w) (hs : s.size ≤ 60) (hp : pPart l = .ok (p, q)) :
    Calls Try.prog 46 #[.pointer (some ⟨b, 0, none⟩)] w fun e w' => ∃ f caps, e = .returned (.agg #[.bool p.many, .func (.func f) #[] caps]) ∧ FnAt w.heap.size w' (.func (.func f) #[] caps) p ∧ AtL b s q w' ∧ Kept (one b) w w' :=
  (part_any b s l w h hs).mono fun _ _ ⟨h1, h2, _⟩ => by
    obtain ⟨v, h3, h4, h5⟩ := h2 p q hp
    obtain ⟨f, caps, rfl⟩ := h4.oneCell
    exact ⟨f, caps, h3, h4, h5, h1⟩

set_option maxRecDepth 100000 in
set_option maxHeartbeats 2000000 in
theorem parse1_any (b bw bp base : Nat) (s : ByteArray) (l0 : List UInt8) (w : World) (h : AtL b s l0 w) (hs : s.size ≤ 60) (hw : w.heap[bw]? = some (.cells #[.pointer (some ⟨b, 0, none⟩)] 65)) (hp0 : w.heap[bp]? = some (.cells #[.slice none 0 0] 41))
    (hbw : b ≠ bw) (hbp : b ≠ bp) (hwp : bw ≠ bp) (hb1 : b < base) (hb2 : bw < base) (hb3 : bp < base) (hbase : base = w.heap.size) :
    Calls Try.prog 44 #[.pointer (some ⟨bw, 0, none⟩), .pointer (some ⟨bp, 0, none⟩)] w (InPost b bp base l0 w) := by
  obtain ⟨i0, hi, hz0, hz1, hz2⟩ := info_parts infoPart
  have HA := hide h
  have HW := hide hw
  have HP0 := hide hp0
  clear h hw hp0
  go_enter Try.func44, Try.ntmps44
  go_wp2_with fail
  go_loopw [] (fun wr => ∃ (acc : List (Value × Part)) (l : List UInt8) (V : Value), AtL b s l wr ∧ acc.length + l.length ≤ s.size ∧ Hid (wr.heap[bw]? = some (.cells #[.pointer (some ⟨b, 0, none⟩)] 65)) ∧ Hid (wr.heap[bp]? = some (.cells #[V] 41)) ∧
      Hid (PartsAt base wr V acc) ∧ Kept (fun j => j = b ∨ j = bp) w wr ∧ Hid (pParts l0 = aheadP (acc.map Prod.snd) (pParts l))) (fun wr => leftOf b s wr)
  case atStart => exact ⟨[], l0, _, HA.out, by have := HA.out.len; simpa using this, HW, HP0, ⟨World.ownsRow_nil _ _ _ _, fun x hx => by simp at hx⟩, Kept.refl _ _, by rw [Hid, List.map_nil, aheadP_nil]⟩
  case round =>
    clear HA HW HP0
    obtain ⟨acc, l, V, ha, hacc, HW, HV, HPA, hkw, HP⟩ := hrel
    obtain ⟨ao, cp, rfl⟩ := rowSlice2 HPA.out.row
    obtain ⟨x0, _⟩ := one_of HW.out
    obtain ⟨y0, y1⟩ := one_of HV.out
    have hlf := ha.left
    have hzr : base ≤ wr.heap.size := by have := hkw.size; omega
    cases l with
    | nil =>
      have HP2 : Hid (pParts l0 = .ok (acc.map Prod.snd)) := by rw [Hid, HP.out, pParts_nil]; simp [aheadP]
      go_wp2_with fail
      refine (done_nil b s wr ha).mono ?_
      rintro e w' ⟨rfl, nd, rfl⟩
      go_wp2_with fail
      have fin : InPost b bp base l0 w (.returned (.tuple #[])) (wr.drewN nd) := ⟨hkw.drewN nd, fun ps hx => by
        rw [HP2.out] at hx
        simp at hx
        subst hx
        have k1 : Kept (fun _ => False) wr (wr.drewN nd) := (Kept.refl _ wr).drewN nd
        exact ⟨rfl, _, acc, rfl, HV.out, ⟨k1.owns HPA.out.row (fun _ _ e => e), fun x hx => (HPA.out.fns x hx).kept k1 (Nat.le_refl _) (fun _ _ _ _ _ _ e => e)⟩, by simp at hacc; omega⟩, fun n hx => by rw [HP2.out] at hx; simp at hx⟩
      go_end0
      exact fin
    | cons c l =>
      simp only [List.length_cons] at hacc hlf
      cases hps : pPart (c :: l) with
      | error x =>
        have HP2 : Hid (pParts l0 = .error x) := by rw [Hid, HP.out, aheadP_err hps]
        go_wp2_with fail
        refine (done_cons b s c l wr ha).mono ?_
        rintro e w' ⟨rfl, nd, rfl⟩
        have ha1 : AtL b s (c :: l) ((wr.drewN nd).drewN 1) := (ha.drewN nd).drewN 1
        have hk1 : Kept (fun j => j = b ∨ j = bp) w ((wr.drewN nd).drewN 1) := (hkw.drewN nd).drewN 1
        go_wp2_with fail
        refine wp_region_any (by kernel_rfl) ?_
        change wpAny _ _ _ _ _ _ _ (World.drew _)
        refine wpAny_ready (rs := [0, 1]) (by kernel_rfl) (by simp) ?_
        refine AllReady.cons rfl (fun K hK => ?_) ?_
        · go_simp
          refine hK _ _ ?_
          clear hK K
          refine wpAny_ready (rs := [1]) (by kernel_rfl) (by simp) ?_
          refine AllReady.cons rfl (fun K hK => ?_) AllReady.nil
          go_simp
          refine hK _ _ ?_
          clear hK K
          refine wpAny_ready (rs := [2]) (by kernel_rfl) (by simp) ?_
          refine AllReady.cons rfl (fun K hK => ?_) AllReady.nil
          go_simp
          refine (part_err b s (c :: l) x _ ha1 hs hps).mono ?_
          rintro e w3 ⟨rfl, hk3⟩
          exact ⟨rfl, InPost.err HP2.out (hk1.trans (hk3.mono (fun j _ e => .inl e)))⟩
        · refine AllReady.cons rfl (fun K hK => ?_) AllReady.nil
          go_simp
          refine hK _ _ ?_
          clear hK K
          refine wpAny_ready (rs := [0, 2]) (by kernel_rfl) (by simp) ?_
          refine AllReady.cons rfl (fun K hK => ?_) ?_
          · go_simp
            refine hK _ _ ?_
            clear hK K
            refine wpAny_ready (rs := [2]) (by kernel_rfl) (by simp) ?_
            refine AllReady.cons rfl (fun K hK => ?_) AllReady.nil
            go_simp
            refine (part_err b s (c :: l) x _ ha1 hs hps).mono ?_
            rintro e w3 ⟨rfl, hk3⟩
            exact ⟨rfl, InPost.err HP2.out (hk1.trans (hk3.mono (fun j _ e => .inl e)))⟩
          · refine AllReady.cons rfl (fun K hK => ?_) AllReady.nil
            go_simp
            refine (part_err b s (c :: l) x _ ha1 hs hps).mono ?_
            rintro e w3 ⟨rfl, hk3⟩
            exact ⟨rfl, InPost.err HP2.out (hk1.trans (hk3.mono (fun j _ e => .inl e)))⟩
      | ok y =>
        obtain ⟨p, q⟩ := y
        have hq := (pPart_suffix hps).2
        simp only [List.length_cons] at hq
        have HP2 : Hid (pParts l0 = aheadP ((acc.map Prod.snd) ++ [p]) (pParts q)) := by rw [Hid, HP.out, aheadP_ok hps]
        clear HP
        have hbl := ha.lt
        go_wp2_with fail
        refine (done_cons b s c l wr ha).mono ?_
        rintro e w' ⟨rfl, nd, rfl⟩
        have ha1 : AtL b s (c :: l) ((wr.drewN nd).drewN 1) := (ha.drewN nd).drewN 1
        have k01 : ∀ S, Kept S wr ((wr.drewN nd).drewN 1) := fun S => ((Kept.refl S wr).drewN nd).drewN 1
        go_wp2_with fail
        go_region_law (first
          | (refine step_append_lies _ (by rfl) _ _ 41 (by rfl) base 85 i0 (.agg #[.bool false, .nilFunc]) 2 16 Try.underlying41 hi hz0 hz1 hz2 rfl (by omega) (.slice ao acc.length cp) acc.length (partRow acc) (by rfl) (hown3.alloc _) ⟨w3.heap.size, 0, none⟩ 1 1 [.bool p.many, .func (.func fv) #[] caps] (by rfl) (by rfl) (fun j u hj => by match j, hj with | 0, hj => (simp at hj; subst hj; simp [Addr.add]) | 1, hj => (simp at hj; subst hj; simp [Addr.add]) | _ + 2, hj => (simp at hj)) (fun u hu => by simp at hu; rcases hu with rfl | rfl <;> rfl) (by omega) (by unfold maxLen; omega) (by omega) (by simp; omega) (w3.heap.size + 1) (by simp) ?_; intro g cap w4 hown4 hgrow hat hlt4; have hk4 : Kept (fun j => some j = (Value.slice ao acc.length cp).ownBlock) (w3.alloc (.cells #[.bool p.many, .func (.func fv) #[] caps] 85)) w4 := ⟨hgrow.os, hgrow.tape, hgrow.output, hgrow.size, fun j hj hs => hgrow.block j hj hs⟩; have hV4 := (hk4.block bp (by simp; omega) (fun e => by have := (hown3.lt bp e.symm).1; omega)).trans (hV3 _); have hc4 := (one_of hV4).1; have hf4 := (one_of hV4).2)
          | (go_simp; refine (part_ok b s (c :: l) q p _ ha1 hs hps).mono ?_; rintro e w3 ⟨fv, caps, rfl, hfn3, ha3, hk3⟩; have hk3a : Kept (one b) wr w3 := (k01 _).trans hk3; have hsz3 : wr.heap.size ≤ w3.heap.size := hk3a.size; have hV3 : ∀ o, (w3.alloc o).heap[bp]? = some (.cells #[.slice ao acc.length cp] 41) := fun o => ((hk3a.alloc o).block bp (by omega) (fun e => by simp only [one] at e; omega)).trans HV.out; have hV30 : w3.heap[bp]? = some (.cells #[.slice ao acc.length cp] 41) := (hk3a.block bp (by omega) (fun e => by simp only [one] at e; omega)).trans HV.out; have hc3 := (one_of hV30).1; have hc3a := fun o => (one_of (hV3 o)).1; have hown3 := hk3a.owns HPA.out.row (fun j hv hs => by have := (HPA.out.row.lt j hv).1; simp only [one] at hs; omega)))
        all_goals
          have hbT : ∀ (k : Nat) (cs : Array Value) (T : Nat), base ≤ k → (w3.alloc (.cells #[.bool p.many, .func (.func fv) #[] caps] 85)).heap[k]? = some (.cells cs T (0, 0)) → T ≠ 85 → ¬ some k = (Value.slice ao acc.length cp).ownBlock := fun k cs T _ h1 h2 h3 => by
            rcases (hown3.alloc (.cells #[.bool p.many, .func (.func fv) #[] caps] 85)).2 with ⟨hv, _⟩ | ⟨g', cap', cur', hv, _, hg', _⟩
            · simp at hv; obtain ⟨rfl, _⟩ := hv; simp [Value.ownBlock] at h3
            · simp at hv
              obtain ⟨rfl, _⟩ := hv
              simp [Value.ownBlock] at h3
              subst h3
              rw [hg'] at h1
              simp at h1
              exact h2 h1.2.symm
          have hFa : ∀ x ∈ acc, FnAt base w4 x.1 x.2 := fun x hx => (((HPA.out.fns x hx).kept hk3a (Nat.le_refl _) (fun k cs T hk _ _ e => by simp only [one] at e; omega)).kept (S := fun _ => False) ((Kept.refl _ _).alloc _) (Nat.le_refl _) (fun _ _ _ _ _ _ e => e)).kept hk4 (Nat.le_refl _) hbT
          have hFn : FnAt base w4 (.func (.func fv) #[] caps) p := ((hfn3.kept (S := fun _ => False) ((Kept.refl _ _).alloc _) (show base ≤ _ from hzr) (fun _ _ _ _ _ _ e => e))).kept hk4 (Nat.le_refl _) hbT
          have hol : (acc ++ [(Value.func (.func fv) #[] caps, p)]).length = acc.length + 1 := by simp
          have hrw : partRow acc ++ [.bool p.many, .func (.func fv) #[] caps] = partRow (acc ++ [(Value.func (.func fv) #[] caps, p)]) := (partRow_snoc acc (.func (.func fv) #[] caps, p)).symm
          rw [hrw] at hown4
          have kst := (Kept.refl (one bp) w4).set1 0 (.slice (some ⟨g, 0, none⟩) (acc.length + 1) cap)
          have hkall : Kept (fun j => j = b ∨ base ≤ j) wr w4 := ((hk3a.mono (fun j _ e => .inl e)).alloc _).trans (hk4.mono (fun j _ e => .inr (hown3.lt j e.symm).1))
          have hkw4 : Kept (fun j => j = b ∨ j = bp) w w4 := ((hkw.mono (T := fun j => (j = b ∨ j = bp) ∨ w.heap.size ≤ j) (fun _ _ e => .inl e)).trans (hkall.mono (fun j hj e => by rcases e with e | e; exact .inl (.inl e); exact .inr (by omega)))).mono (fun j hj e => by rcases e with e | e; exact e; omega)
          have ha4 : AtL b s q w4 := ((ha3.alloc _).kept hk4 (fun e => by have := (hown3.lt b e.symm).1; omega))
          have HW5 : Hid ((w4.setCell ⟨bp, 0, none⟩ (.slice (some ⟨g, 0, none⟩) (acc.length + 1) cap)).heap[bw]? = some (.cells #[.pointer (some ⟨b, 0, none⟩)] 65)) := (kst.block bw (by have := hkall.size; omega) (fun e => by simp only [one] at e; omega)).trans ((hkall.block bw (by omega) (fun e => by rcases e with e | e <;> omega)).trans HW.out)
          have HV5 : Hid ((w4.setCell ⟨bp, 0, none⟩ (.slice (some ⟨g, 0, none⟩) (acc.length + 1) cap)).heap[bp]? = some (.cells #[.slice (some ⟨g, 0, none⟩) (acc.length + 1) cap] 41)) := setCell_heap1 hV4 0 _
          have HPA5 : Hid (PartsAt base (w4.setCell ⟨bp, 0, none⟩ (.slice (some ⟨g, 0, none⟩) (acc.length + 1) cap)) (.slice (some ⟨g, 0, none⟩) (acc.length + 1) cap) (acc ++ [(Value.func (.func fv) #[] caps, p)])) := by
            refine ⟨by rw [hol]; exact kst.owns hown4 (fun j hj e => by have := (hown4.lt j hj).1; simp only [one] at e; omega), fun x hx => ?_⟩
            have hx4 : FnAt base w4 x.1 x.2 := by
              rw [List.mem_append] at hx
              rcases hx with hx | hx
              · exact hFa x hx
              · simp only [List.mem_singleton] at hx
                subst hx
                exact hFn
            exact hx4.kept kst (Nat.le_refl _) (fun k cs T hk _ _ e => by simp only [one] at e; omega)
          have ha5 : AtL b s q (w4.setCell ⟨bp, 0, none⟩ (.slice (some ⟨g, 0, none⟩) (acc.length + 1) cap)) := ha4.setOther (by omega) _
          have hk5 : Kept (fun j => j = b ∨ j = bp) w (w4.setCell ⟨bp, 0, none⟩ (.slice (some ⟨g, 0, none⟩) (acc.length + 1) cap)) := hkw4.setCell (p := ⟨bp, 0, none⟩) (.inl (.inr rfl)) _
          have hl5 := ha5.left
          clear hbT hFa hFn hown4 kst hkall hkw4 ha4 hk4 hgrow hat hlt4 hown3 hk3a hk3 ha3 hfn3 hV3 hV30 hc3 hc3a HW HV HPA hV4 x0 y0 y1
          go_wp2_with fail
          go_roundw
          case rel => exact ⟨acc ++ [(Value.func (.func fv) #[] caps, p)], q, _, ha5, by rw [hol]; omega, HW5, HV5, HPA5, hk5, by rw [Hid, HP2.out]; simp⟩
          case measure => rw [hl5, hlf]; omega
end Go.Proofs.Ytolpmaapdkhigab
