/- WALK of the decoding of a list. -/
import Derived.Test.YtolpmaapdkhigaaDoorDec4
import Derived.Test.YtolpmaapdkhigaaDoorWords
import Derived.Deep.RegionHeld3
import Derived.Deep.AppendLies
import Derived.Handy
namespace Go.Proofs.YtolpmaapdkhigaaDoor
open Go.RowKit

def One.cells (r : One) : List Value := [.int .i64 r.k, .string ⟨r.t.toArray⟩, .int .i64 r.n, .slice none 0 0]
def onesRow (rs : List One) : List Value := (rs.map One.cells).flatten
theorem onesRow_snoc (rs : List One) (r : One) : onesRow (rs ++ [r]) = onesRow rs ++ r.cells := by simp [onesRow]

def pMany : Nat → List UInt8 → Except Nat (List One × List UInt8)
  | 0, l => .ok ([], l)
  | _ + 1, [] => .error 8
  | n + 1, c :: l => match pSingle c l with
    | .error e => .error e
    | .ok (r, q) => match pMany n q with
      | .error e => .error e
      | .ok (rs, q') => .ok (r :: rs, q')
def pList (l : List UInt8) : Except Nat (List One × List UInt8) :=
  match pNumber l with
  | .error e => .error e
  | .ok (n, q) => if n < 0 then .error 1 else pMany n.toNat q
def aheadR (p : List One) : Except Nat (List One × List UInt8) → Except Nat (List One × List UInt8)
  | .error e => .error e
  | .ok (x, q) => .ok (p ++ x, q)
theorem aheadR_nil (r : Except Nat (List One × List UInt8)) : aheadR [] r = r := by
  cases r with
  | error e => rfl
  | ok p => rfl
theorem aheadR_ok {acc : List One} {n : Nat} {c : UInt8} {l q : List UInt8} {r : One} (h : pSingle c l = .ok (r, q)) : aheadR acc (pMany (n + 1) (c :: l)) = aheadR (acc ++ [r]) (pMany n q) := by
  rw [pMany, h]
  simp only
  cases pMany n q with
  | error e => rfl
  | ok p => simp [aheadR]
theorem aheadR_err {acc : List One} {n x : Nat} {c : UInt8} {l : List UInt8} (h : pSingle c l = .error x) : aheadR acc (pMany (n + 1) (c :: l)) = .error x := by
  rw [pMany, h]
  rfl

theorem two_blocks {b : Nat} {w w1 : World} {o o2 : Obj} (hb : b < w.heap.size) (hk : Kept (one b) ((w.alloc o).alloc o2) w1) : w1.heap[w.heap.size]? = some o ∧ w1.heap[w.heap.size + 1]? = some o2 := by
  have e : (w.alloc o).heap.size = w.heap.size + 1 := by simp
  have h2 := heap_alloc_new (w.alloc o) o2
  rw [e] at h2
  exact ⟨(hk.block w.heap.size (by simp; omega) (fun e => by simp only [one] at e; omega)).trans ((Below.heap_alloc _ _ _ (by simp)).trans (heap_alloc_new w o)),
    (hk.block (w.heap.size + 1) (by simp) (fun e => by simp only [one] at e; omega)).trans h2⟩

theorem rowSlice {w : World} {b e s : Nat} {v : Value} {n : Nat} {xs : List Value} (h : w.ownsRow b e s v n xs) : ∃ ao cp, v = .slice ao n cp := by
  rcases h.2 with ⟨rfl, rfl⟩ | ⟨g, cap, cur, rfl, _⟩
  · exact ⟨_, _, rfl⟩
  · exact ⟨_, _, rfl⟩

theorem ownsRow_low {w : World} {b1 b2 e s : Nat} {v : Value} {n : Nat} {xs : List Value} (h : w.ownsRow b1 e s v n xs) (hb : b2 ≤ b1) : w.ownsRow b2 e s v n xs := by
  refine ⟨h.1, ?_⟩
  rcases h.2 with hn | ⟨g, cap, cur, hv, hb1, rest⟩
  · exact .inl hn
  · exact .inr ⟨g, cap, cur, hv, by omega, rest⟩

/-- what the walk of a list answers -/
def ListPost (b : Nat) (s : ByteArray) (l : List UInt8) (w : World) (e : Ending) (w' : World) : Prop :=
  Kept (one b) w w' ∧
      (∀ rs q, pList l = .ok (rs, q) → ∃ V, e = .returned (.agg #[.int .i64 6, .string ⟨#[]⟩, .int .i64 0, V]) ∧ w'.ownsRow w.heap.size 24 4 V rs.length (onesRow rs) ∧ AtL b s q w') ∧
      (∀ n, pList l = .error n → e = .panicked [{ v := .iface 66 (.agg #[.int .i64 (n)]), recovered := false }])
theorem ListPost.err {b : Nat} {s : ByteArray} {l : List UInt8} {w w' : World} {x : Nat} (hp : pList l = .error x) (hk : Kept (one b) w w') : ListPost b s l w (.panicked [{ v := .iface 66 (.agg #[.int .i64 (x)]), recovered := false }]) w' :=
  ⟨hk, fun v q hx => by rw [hp] at hx; simp at hx, fun n hx => by rw [hp] at hx; simp at hx; subst hx; rfl⟩

set_option maxRecDepth 100000 in
set_option maxHeartbeats 4000000 in
theorem list_any (b : Nat) (s : ByteArray) (l : List UInt8) (w : World) (h : AtL b s l w) (hs : s.size ≤ 281474976710656) (he : Env w) (hb5 : 5 ≤ b) :
    Calls Tryd.prog 41 #[.pointer (some ⟨b, 0, none⟩)] w (ListPost b s l w) := by
  obtain ⟨i0, hi, hz0, hz1, hz2⟩ := info_parts infoReply
  have hbw := h.lt
  have HA : Hid (∀ o o2, AtL b s l ((w.alloc o).alloc o2)) := fun o o2 => (h.alloc o).alloc o2
  have HE : Hid (∀ o o2, Env ((w.alloc o).alloc o2)) := fun o o2 => he.below (((Below.refl _ w).alloc (Nat.le_refl _) o).alloc (by simp) o2)
  have HK : Hid (∀ o o2 w', Kept (one b) ((w.alloc o).alloc o2) w' → Kept (one b) w w') := fun o o2 w' hk => (((Kept.refl _ w).alloc o).alloc o2).trans hk
  cases hp : pNumber l with
  | error x =>
    have HP : Hid (pList l = .error x) := by simp only [Hid, pList, hp]
    go_enter Tryd.func41, Tryd.ntmps41
    go_wp2_with fail
    refine (number_err b s l x _ (HA.out _ _) hs (HE.out _ _) hb5 hp).mono ?_
    rintro e w1 ⟨rfl, hk1⟩
    exact ⟨rfl, ListPost.err HP.out (HK.out _ _ _ hk1)⟩
  | ok y =>
    obtain ⟨n, q⟩ := y
    obtain ⟨hn1, hn2, hq1, hq2⟩ := pNumber_bounds hp
    by_cases h2 : n < 0
    · have HP : Hid (pList l = .error 1) := by simp only [Hid, pList, hp]; rw [if_pos h2]
      go_enter Tryd.func41, Tryd.ntmps41
      go_wp2_with fail
      refine (number_ok b s l q n _ (HA.out _ _) hs (HE.out _ _) hb5 hp).mono ?_
      rintro e w1 ⟨rfl, ha1, hk1⟩
      go_wp2_with (go_at_call 43; refine (giveUp_any _ _).mono ?_; rintro e w' ⟨rfl, rfl⟩)
      exact ⟨rfl, ListPost.err HP.out (HK.out _ _ _ hk1)⟩
    · obtain ⟨m, rfl⟩ := Int.eq_ofNat_of_zero_le (show 0 ≤ n by omega)
      have HP : Hid (pList l = pMany m q) := by simp only [Hid, pList, hp]; rw [if_neg h2, Int.toNat_natCast]
      go_enter Tryd.func41, Tryd.ntmps41
      go_wp2_with fail
      refine (number_ok b s l q m _ (HA.out _ _) hs (HE.out _ _) hb5 hp).mono ?_
      rintro e w1 ⟨rfl, ha1, hk1⟩
      obtain ⟨hB0, hB1⟩ := two_blocks hbw hk1
      have HB0 := hide hB0
      obtain ⟨c0, c1, c2, c3, f0, f1, f2, f3⟩ := four_of hB1
      have HK1 := HK.out _ _ _ hk1
      clear hB0 hB1 f0 f1 f2 hk1 hp h HA HK HE
      go_wp2_with fail
      go_loopw [12] (fun i wr => ∃ (k : Nat) (acc : List One) (q' : List UInt8) (V : Value), k ≤ m ∧ i = .int .i64 k ∧ acc.length = k ∧ Hid (wr.heap[w.heap.size]? = some (.cells #[.int .i64 0, .string ⟨#[]⟩, .int .i64 0, .slice none 0 0] 24)) ∧
          wr.cell? ⟨w.heap.size + 1, 0, none⟩ = some (.int .i64 6) ∧ wr.cell? ⟨w.heap.size + 1, 1, none⟩ = some (.string ⟨#[]⟩) ∧ wr.cell? ⟨w.heap.size + 1, 2, none⟩ = some (.int .i64 0) ∧ wr.cell? ⟨w.heap.size + 1, 3, none⟩ = some V ∧ wr.frozen? ⟨w.heap.size + 1, 3, none⟩ = false ∧
          wr.ownsRow (w.heap.size + 2) 24 4 V k (onesRow acc) ∧ AtL b s q' wr ∧ Kept (one b) w wr ∧ Hid (pList l = aheadR acc (pMany (m - k) q'))) (fun i _ => m - (intOf i).toNat)
      case atStart => exact ⟨0, [], q, _, Nat.zero_le _, rfl, rfl, HB0, c0, c1, c2, c3, f3, World.ownsRow_nil _ _ _ _, ha1, HK1, by rw [Hid, HP.out, Nat.sub_zero, aheadR_nil]⟩
      case round =>
        clear HP ha1 HK1 HB0 c0 c1 c2 c3 f3
        obtain ⟨k, acc, q', V, hk, rfl, hacc, HB0, c0, c1, c2, c3, f3, hown, hq, hkq, HP⟩ := hrel
        obtain ⟨ao, cp, rfl⟩ := rowSlice hown
        have hwr : w.heap.size + 1 < wr.heap.size := World.block_lt_of_cell? _ _ c0
        have heq : Env wr := he.kept hkq (fun k e => by simp only [one] at e; omega)
        by_cases hlt : k < m
        · cases q' with
          | nil =>
            have HP2 : Hid (pList l = .error 8) := by rw [HP.out, show m - k = (m - k - 1) + 1 from by omega]; rfl
            clear HP
            go_wp2_with fail
            refine wp_region_any (by kernel_rfl) ?_
            change wpAny _ _ _ _ _ _ _ (World.drew _)
            refine wpAny_take (i := 0) (v := .pointer (some ⟨w.heap.size + 1, 3, none⟩)) rfl (by kernel_rfl) (by kernel_rfl) (by kernel_rfl) (fun _ _ _ h => h) (Or.inl ⟨by rfl, by intro w; go_simp⟩) ?_
            refine wpAny_take (i := 2) (v := .pointer (some ⟨b, 0, none⟩)) rfl (by kernel_rfl) (by kernel_rfl) (by kernel_rfl) (fun _ _ _ h => h) (Or.inl ⟨by rfl, by intro w; go_simp⟩) ?_
            refine wpAny_take (i := 3) (v := .pointer (some ⟨b, 0, none⟩)) rfl (by kernel_rfl) (by kernel_rfl) (by kernel_rfl) (fun _ _ _ h => h) (Or.inl ⟨by rfl, by intro w; go_simp⟩) ?_
            refine wpAny_ready (rs := [1, 4]) (by kernel_rfl) (by simp) ?_
            refine AllReady.cons rfl (fun K hK => ?_) ?_
            · go_simp
              refine hK _ _ ?_
              clear hK K
              refine wpAny_ready (rs := [4]) (by kernel_rfl) (by simp) ?_
              refine AllReady.cons rfl (fun K hK => ?_) AllReady.nil
              go_simp
              refine (next_short b s _ (hq.drewN 1)).mono ?_
              rintro e w2 ⟨rfl, hk2⟩
              exact ⟨rfl, ListPost.err HP2.out (hkq.trans (((Kept.refl _ _).drewN 1).trans hk2))⟩
            · refine AllReady.cons rfl (fun K hK => ?_) AllReady.nil
              go_simp
              refine (next_short b s _ (hq.drewN 1)).mono ?_
              rintro e w2 ⟨rfl, hk2⟩
              exact ⟨rfl, ListPost.err HP2.out (hkq.trans (((Kept.refl _ _).drewN 1).trans hk2))⟩
          | cons c q' =>
            cases hps : pSingle c q' with
            | error x =>
              have HP2 : Hid (pList l = .error x) := by rw [Hid, HP.out, show m - k = (m - k - 1) + 1 from by omega, aheadR_err hps]
              clear HP
              go_wp2_with fail
              refine wp_region_any (by kernel_rfl) ?_
              change wpAny _ _ _ _ _ _ _ (World.drew _)
              refine wpAny_take (i := 0) (v := .pointer (some ⟨w.heap.size + 1, 3, none⟩)) rfl (by kernel_rfl) (by kernel_rfl) (by kernel_rfl) (fun _ _ _ h => h) (Or.inl ⟨by rfl, by intro w; go_simp⟩) ?_
              refine wpAny_take (i := 2) (v := .pointer (some ⟨b, 0, none⟩)) rfl (by kernel_rfl) (by kernel_rfl) (by kernel_rfl) (fun _ _ _ h => h) (Or.inl ⟨by rfl, by intro w; go_simp⟩) ?_
              refine wpAny_take (i := 3) (v := .pointer (some ⟨b, 0, none⟩)) rfl (by kernel_rfl) (by kernel_rfl) (by kernel_rfl) (fun _ _ _ h => h) (Or.inl ⟨by rfl, by intro w; go_simp⟩) ?_
              refine wpAny_ready (rs := [1, 4]) (by kernel_rfl) (by simp) ?_
              refine AllReady.cons rfl (fun K hK => ?_) ?_
              · go_simp
                refine hK _ _ ?_
                clear hK K
                refine wpAny_ready (rs := [4]) (by kernel_rfl) (by simp) ?_
                refine AllReady.cons rfl (fun K hK => ?_) AllReady.nil
                go_simp
                refine (next_ok b s c q' _ (hq.drewN 1)).mono ?_
                rintro e w2 ⟨rfl, ha2, hk2⟩
                have hc2 : w2.cell? ⟨w.heap.size + 1, 3, none⟩ = some (.slice ao k cp) := hk2.cell' c3 (fun e => by simp only [one] at e; omega)
                have he2 : Env w2 := he.kept (hkq.trans (((Kept.refl _ _).drewN 1).trans hk2)) (fun k e => by simp only [one] at e; omega)
                refine hK _ _ ?_
                clear hK K
                refine wpAny_ready (rs := [5]) (by kernel_rfl) (by simp) ?_
                refine AllReady.cons rfl (fun K hK => ?_) AllReady.nil
                go_simp
                refine (single_err b s c q' x _ ha2 hs he2 hb5 hps).mono ?_
                rintro e w3 ⟨rfl, hk3⟩
                exact ⟨rfl, ListPost.err HP2.out ((hkq.trans (((Kept.refl _ _).drewN 1).trans hk2)).trans hk3)⟩
              · refine AllReady.cons rfl (fun K hK => ?_) AllReady.nil
                go_simp
                refine (next_ok b s c q' _ (hq.drewN 1)).mono ?_
                rintro e w2 ⟨rfl, ha2, hk2⟩
                have hc2 : w2.cell? ⟨w.heap.size + 1, 3, none⟩ = some (.slice ao k cp) := hk2.cell' c3 (fun e => by simp only [one] at e; omega)
                have he2 : Env w2 := he.kept (hkq.trans (((Kept.refl _ _).drewN 1).trans hk2)) (fun k e => by simp only [one] at e; omega)
                refine hK _ _ ?_
                clear hK K
                refine wpAny_ready (rs := [1, 5]) (by kernel_rfl) (by simp) ?_
                refine AllReady.cons rfl (fun K hK => ?_) ?_
                · go_simp
                  refine hK _ _ ?_
                  clear hK K
                  refine wpAny_ready (rs := [5]) (by kernel_rfl) (by simp) ?_
                  refine AllReady.cons rfl (fun K hK => ?_) AllReady.nil
                  go_simp
                  refine (single_err b s c q' x _ ha2 hs he2 hb5 hps).mono ?_
                  rintro e w3 ⟨rfl, hk3⟩
                  exact ⟨rfl, ListPost.err HP2.out ((hkq.trans (((Kept.refl _ _).drewN 1).trans hk2)).trans hk3)⟩
                · refine AllReady.cons rfl (fun K hK => ?_) AllReady.nil
                  go_simp
                  refine (single_err b s c q' x _ ha2 hs he2 hb5 hps).mono ?_
                  rintro e w3 ⟨rfl, hk3⟩
                  exact ⟨rfl, ListPost.err HP2.out ((hkq.trans (((Kept.refl _ _).drewN 1).trans hk2)).trans hk3)⟩
            | ok p =>
              obtain ⟨r, q2⟩ := p
              have HP2 : Hid (pList l = aheadR (acc ++ [r]) (pMany (m - (k + 1)) q2)) := by rw [Hid, HP.out, show m - k = (m - (k + 1)) + 1 from by omega, aheadR_ok hps]
              clear HP
              go_wp2_with fail
              go_region_law (first
                | (refine step_append_lies _ (by rfl) _ _ 22 (by rfl) (w.heap.size + 2) 24 i0 (.agg #[.int .i64 0, .string ⟨#[]⟩, .int .i64 0, .slice none 0 0]) 4 56 Tryd.underlying22 hi hz0 hz1 hz2 rfl (by omega) (.slice ao k cp) k (onesRow acc) (by rfl) (hown3.alloc _) ⟨w3.heap.size, 0, none⟩ 1 1 r.cells (by rfl) (by rfl) (fun j u hj => by match j, hj with | 0, hj => (simp [One.cells] at hj; subst hj; simp [Addr.add]) | 1, hj => (simp [One.cells] at hj; subst hj; simp [Addr.add]) | 2, hj => (simp [One.cells] at hj; subst hj; simp [Addr.add]) | 3, hj => (simp [One.cells] at hj; subst hj; simp [Addr.add]) | _ + 4, hj => (simp [One.cells] at hj)) (fun u hu => by simp [One.cells] at hu; rcases hu with rfl | rfl | rfl | rfl <;> rfl) (by omega) (by unfold maxLen; omega) (by omega) (by simp; omega) (w3.heap.size + 1) (by simp) ?_; intro g cap w4 hown4 hgrow hat hlt4; have hk4 : Kept (fun j => j = b ∨ w.heap.size + 2 ≤ j) wr w4 := (((hk3a.mono (fun j _ e => .inl e)).alloc _).grown hgrow (fun j hj => .inl (.inr (hown.lt j hj).1))); have hc4 : w4.cell? ⟨w.heap.size + 1, 3, none⟩ = some (.slice ao k cp) := hk4.cell' c3 (by simp only; omega); have hf4 : w4.frozen? ⟨w.heap.size + 1, 3, none⟩ = false := (hk4.frozen (p := ⟨w.heap.size + 1, 3, none⟩) (World.block_lt_of_cell? _ _ c3) (by simp only; omega)).trans f3)
                | (go_simp; refine (single_ok b s c q' q2 r _ ha2 hs he2 hb5 hps).mono ?_; rintro e w3 ⟨rfl, ha3, hk3⟩; simp only [One.val]; have hk3a : Kept (one b) wr w3 := (((Kept.refl _ _).drewN 1).trans hk2).trans hk3; have hc3 : w3.cell? ⟨w.heap.size + 1, 3, none⟩ = some (.slice ao k cp) := hk3.cell' hc2 (fun e => by simp only [one] at e; omega); have hc3a : ∀ o, (w3.alloc o).cell? ⟨w.heap.size + 1, 3, none⟩ = some (.slice ao k cp) := fun o => ((Kept.refl (fun _ => False) w3).alloc o).cell' hc3 (fun e => e); have hown3 := hk3a.owns hown (fun j hv hs => by have := (hown.lt j hv).1; simp only [one] at hs; omega); have hsz3 : wr.heap.size ≤ w3.heap.size := hk3a.size)
                | (go_simp; refine (next_ok b s c q' _ (hq.drewN 1)).mono ?_; rintro e w2 ⟨rfl, ha2, hk2⟩; have hc2 : w2.cell? ⟨w.heap.size + 1, 3, none⟩ = some (.slice ao k cp) := hk2.cell' c3 (fun e => by simp only [one] at e; omega); have he2 : Env w2 := he.kept (hkq.trans (((Kept.refl _ _).drewN 1).trans hk2)) (fun k e => by simp only [one] at e; omega)))
              all_goals
                rw [← onesRow_snoc] at hown4
                have d0 : w4.cell? ⟨w.heap.size + 1, 0, none⟩ = some (.int .i64 6) := hk4.cell' c0 (by simp only; omega)
                have d1 : w4.cell? ⟨w.heap.size + 1, 1, none⟩ = some (.string ⟨#[]⟩) := hk4.cell' c1 (by simp only; omega)
                have d2 : w4.cell? ⟨w.heap.size + 1, 2, none⟩ = some (.int .i64 0) := hk4.cell' c2 (by simp only; omega)
                have HB4 := hide ((hk4.block w.heap.size (by omega) (fun e => by rcases e with e | e <;> omega)).trans HB0.out)
                have ha4 : AtL b s q2 w4 := (ha3.alloc _).kept (S := fun j => some j = (Value.slice ao k cp).ownBlock) ⟨hgrow.os, hgrow.tape, hgrow.output, hgrow.size, fun j hj hs => hgrow.block j hj hs⟩ (fun e => by have := hown.lt b e.symm; omega)
                have hkw4 : Kept (one b) w w4 := ((hkq.mono (T := fun j => one b j ∨ w.heap.size ≤ j) (fun _ _ e => .inl e)).trans (hk4.mono (fun j _ e => by rcases e with e | e; exact .inl e; exact .inr (by omega)))).mono (fun j hj e => by rcases e with e | e; exact e; omega)
                clear c0 c1 c2 c3 f3 hk4 hgrow hat hlt4 hown3 hown hk3 hk3a hk2 ha2 ha3 hc2 hc3 hc3a HB0 hkq hsz3
                go_wp2
                go_roundw
                case rel =>
                  refine ⟨k + 1, acc ++ [r], q2, _, by omega, by go_num, by simp [hacc], ?_, ?_, ?_, ?_, World.cell?_setCell_same _ _ _ hc4, by simp [hf4], ?_, ha4.setOther (by omega) _, hkw4.setCell (p := ⟨w.heap.size + 1, 3, none⟩) (.inr (by simp)) _, HP2⟩
                  · rw [Hid, ((Kept.refl (one (w.heap.size + 1)) w4).set1 3 _).block w.heap.size (by have := hkw4.size; have := ha4.lt; have := World.block_lt_of_cell? _ _ d0; simp only at this; omega) (fun e => by simp only [one] at e; omega)]; exact HB4.out
                  · rw [World.cell?_setCell_other _ _ _ _ (by simp)]; exact d0
                  · rw [World.cell?_setCell_other _ _ _ _ (by simp)]; exact d1
                  · rw [World.cell?_setCell_other _ _ _ _ (by simp)]; exact d2
                  · exact ((Kept.refl (one (w.heap.size + 1)) w4).set1 3 _).owns hown4 (fun j hj e => by have := (hown4.lt j hj).1; simp only [one] at e; omega)
                case measure => simp [intOf]; omega
        · have hkk : k = m := by omega
          subst hkk
          have HP2 : Hid (pList l = .ok (acc, q')) := by rw [Hid, HP.out, Nat.sub_self]; simp [pMany, aheadR]
          clear HP
          obtain ⟨e0, e1, e2, e3, g0, g1, g2, g3⟩ := four_of HB0.out
          go_wp2_with fail
          have hh2 := put4_heap HB0.out (.int .i64 6) (.string ⟨#[]⟩) (.int .i64 0) (.slice ao k cp)
          have hk5 := put4_kept hkq (.inl (Nat.le_refl w.heap.size)) (.int .i64 6) (.string ⟨#[]⟩) (.int .i64 0) (.slice ao k cp)
          have hk6 := put4_kept (Kept.refl (one w.heap.size) wr) (.inr rfl) (.int .i64 6) (.string ⟨#[]⟩) (.int .i64 0) (.slice ao k cp)
          clear c0 c1 c2 c3 f3 e0 e1 e2 e3 g0 g1 g2 g3
          generalize (((wr.setCell ⟨w.heap.size, 0, none⟩ (.int .i64 6)).setCell ⟨w.heap.size, 1, none⟩ (.string ⟨#[]⟩)).setCell ⟨w.heap.size, 2, none⟩ (.int .i64 0)).setCell ⟨w.heap.size, 3, none⟩ (.slice ao k cp) = w4 at *
          obtain ⟨c0, c1, c2, c3, f0, f1, f2, f3⟩ := four_of hh2
          have ha4 := hq.kept hk6 (fun e => by simp only [one] at e; omega)
          have hown4 := hk6.owns hown (fun j hj e => by have := (hown.lt j hj).1; simp only [one] at e; omega)
          refine bodyPost_ret (v := .agg #[.int .i64 6, .string ⟨#[]⟩, .int .i64 0, .slice ao k cp]) (by simp [results, Tryd.results41, go_sem, c0, c1, c2, c3]) rfl ⟨hk5, fun rs q0 hx => ?_, fun n hx => by rw [HP2.out] at hx; simp at hx⟩
          rw [HP2.out] at hx
          simp at hx
          obtain ⟨rfl, rfl⟩ := hx
          subst hacc
          exact ⟨_, rfl, ownsRow_low hown4 (by omega), ha4⟩
end Go.Proofs.YtolpmaapdkhigaaDoor
