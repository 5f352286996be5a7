/- WALK of the reference's item out of bytes: lists, sets, hashes, scores. -/
import Derived.Test.YtolpmaapdkhigabRItm2
import Derived.BigRegion
import Derived.Deep.RegionLaw
import Derived.Deep.AppendLies
import Derived.Handy
namespace Go.Proofs.Ytolpmaapdkhigab
open Go.RowKit

set_option maxRecDepth 100000 in
set_option maxHeartbeats 16000000 in
theorem itemOf_2 (s : ByteArray) (c : UInt8) (l : List UInt8) (w : World) (hs : s.size ≤ 281474976710656) (hl : s = ⟨(c :: l).toArray⟩) (hc : c.toNat = 2) (HPN : Hid (whole (pEach pText l) = none → decE s.data.toList = 1 ∧ decI s.data.toList = Itm.none)) (HPS : Hid (∀ xs, whole (pEach pText l) = some xs → decE s.data.toList = chkI ⟨2, ⟨#[]⟩, xs, [], []⟩ ∧ (chkI ⟨2, ⟨#[]⟩, xs, [], []⟩ = 0 → decI s.data.toList = ⟨2, ⟨#[]⟩, xs, [], []⟩) ∧ (chkI ⟨2, ⟨#[]⟩, xs, [], []⟩ ≠ 0 → decI s.data.toList = Itm.none))) :
    Calls Try.prog 12 #[.string s] w fun e w' => ∃ u, e = .returned (.tuple #[u, .int .i64 (decE s.data.toList)]) ∧ (∀ W, Stays w.heap.size w' W → ItemIs W u (decI s.data.toList)) ∧ Below w.heap.size w w' := by
  obtain ⟨i0, hi, hz0, hz1, hz2⟩ := info_parts info_t
  have HO : Hid (∀ W, TakeAt (w.heap.size + 1) s false W → Calls Try.prog 33 #[.pointer (some ⟨w.heap.size + 1, 0, none⟩)] W fun e w' => e = .returned (.int .i64 2) ∧ TakeAt (w.heap.size + 1) ⟨l.toArray⟩ false w' ∧ Kept (one (w.heap.size + 1)) W w') := fun W hW => by
    have hh := takerOne_ok (w.heap.size + 1) c l W (by rw [← hl]; exact hW)
    rw [hc] at hh
    exact hh
  have HSS := hide hs
  clear hl hc hs
  cases l with
  | nil =>
    have HDN := hide (HPN.out rfl)
    clear HPN HPS
    go_enter Try.func12, Try.ntmps12
    go_wp2_with fail
    generalize hW : World.alloc _ _ = W
    have BG := hide (begin_of s w W (by rw [← hW]) HSS.out)
    clear hW
    refine (HO.out W BG.out.2.2.1).mono ?_
    rintro e w1 ⟨rfl, h1, hk1⟩
    have F0 := hide (OfAt.start (k := 2) BG.out hk1 h1)
    have hxx := F0.out.hx
    have t0 := h1.c0
    have t1 := h1.c1
    clear h1 hk1 BG
    go_wp2_with fail
    clear t0 t1
    generalize hbx : w1.heap.size = bx at *
    generalize hW2 : World.alloc w1 _ = W2 at *
    clear hW2 hbx
    obtain ⟨x0, x1, x2, x3, x4, xlt⟩ := F0.out.x
    have t0 := F0.out.t.c0
    have t1 := F0.out.t.c1
    refine (bn15 _ _ (by omega) (by omega)).mono ?_
    rintro e w3 ⟨rfl, rfl⟩
    go_wp2_with fail
    clear x0 x1 x2 x3 x4 xlt t0 t1 HO HSS
    refine (takerOne_bad (w.heap.size + 1) ⟨#[]⟩ false _ F0.out.t (.inr rfl)).mono ?_
    rintro e w4 ⟨rfl, h4, hk4⟩
    have F4 := hide (F0.out.taken hk4 h4)
    clear F0 h4 hk4
    go_wp2_with fail
    refine wp_loop_rounds 1 ?_
    rw [rounds_succ]
    obtain ⟨r0, r1, r2, r3, r4, rlt⟩ := F4.out.r
    have g0 := F4.out.rs 0
    have g1 := F4.out.rs 1
    have g2 := F4.out.rs 2
    have g3 := F4.out.rs 3
    have g4 := F4.out.rs 4
    have t0 := F4.out.t.c0
    have t1 := F4.out.t.c1
    have hbz := F4.out.c
    go_wp2_with fail
    refine bodyPost_ret (v := .tuple #[.agg #[.int .i64 0, .string ⟨#[]⟩, .slice none 0 0, .slice none 0 0, .slice none 0 0], .int .i64 1]) (by simp [results, Try.results12, go_sem, r0, r1, r2, r3, r4]) rfl ⟨_, by rw [HDN.out.1], fun W' _ => by rw [HDN.out.2]; exact zero_isd W', ?_⟩
    clear F4
    go_grown
  | cons c2 r =>
    have hcb := byte_lt c2
    go_enter Try.func12, Try.ntmps12
    go_wp2_with fail
    generalize hW : World.alloc _ _ = W
    have BG := hide (begin_of s w W (by rw [← hW]) HSS.out)
    clear hW
    refine (HO.out W BG.out.2.2.1).mono ?_
    rintro e w1 ⟨rfl, h1, hk1⟩
    have F0 := hide (OfAt.start (k := 2) BG.out hk1 h1)
    have hxx := F0.out.hx
    have t0 := h1.c0
    have t1 := h1.c1
    clear h1 hk1 BG
    go_wp2_with fail
    clear t0 t1
    generalize hbx : w1.heap.size = bx at *
    generalize hW2 : World.alloc w1 _ = W2 at *
    clear hW2 hbx
    obtain ⟨x0, x1, x2, x3, x4, xlt⟩ := F0.out.x
    have t0 := F0.out.t.c0
    have t1 := F0.out.t.c1
    refine (bn15 _ _ (by omega) (by omega)).mono ?_
    rintro e w3 ⟨rfl, rfl⟩
    go_wp2_with fail
    clear x0 x1 x2 x3 x4 xlt t0 t1 HO HSS
    refine (takerOne_ok (w.heap.size + 1) c2 r _ F0.out.t).mono ?_
    rintro e w4 ⟨rfl, h4, hk4⟩
    have F4 := hide (F0.out.taken hk4 h4)
    clear F0 h4 hk4
    have HN0 : Hid (pTo pText r c2.toNat = none → decE s.data.toList = 1 ∧ decI s.data.toList = Itm.none) := fun h => HPN.out (by rw [pEach, h]; rfl)
    have HN1 : Hid (∀ xs c3 q3, pTo pText r c2.toNat = some (xs, c3 :: q3) → decE s.data.toList = 1 ∧ decI s.data.toList = Itm.none) := fun xs c3 q3 h => HPN.out (by rw [pEach, h]; rfl)
    have HS1 : Hid (∀ xs, pTo pText r c2.toNat = some (xs, []) → pEach pText (c2 :: r) = some (xs, []) ∧ decE s.data.toList = chkI ⟨2, ⟨#[]⟩, xs, [], []⟩ ∧ (chkI ⟨2, ⟨#[]⟩, xs, [], []⟩ = 0 → decI s.data.toList = ⟨2, ⟨#[]⟩, xs, [], []⟩) ∧ (chkI ⟨2, ⟨#[]⟩, xs, [], []⟩ ≠ 0 → decI s.data.toList = Itm.none)) := fun xs h => ⟨by rw [pEach, h], HPS.out xs (by rw [pEach, h]; rfl)⟩
    clear HPN HPS
    have hn255 : c2.toNat ≤ 255 := by omega
    generalize c2.toNat = n at *
    go_wp2_with fail
    go_loopw [7] (fun i wr => ∃ (j : Nat), j ≤ n ∧ i = .int .i64 j ∧ ((∃ (xs : List (ByteArray)) (q : List UInt8) (v : Value), Hid (pTo pText r j = some (xs, q)) ∧ OfAt bx w wr ⟨q.toArray⟩ false (.int .i64 2) (.string ⟨#[]⟩) (v) (.slice none 0 0) (.slice none 0 0) ∧ wr.ownsRow (bx + 1) 9 1 v j (rowT xs)) ∨ (Hid (pTo pText r n = none) ∧ ∃ s1 v, OfAt bx w wr s1 true (.int .i64 2) (.string ⟨#[]⟩) (v) (.slice none 0 0) (.slice none 0 0)))) (fun i _ => n - (intOf i).toNat)
    case atStart => exact ⟨0, by omega, rfl, .inl ⟨[], r, .slice none 0 0, rfl, F4.out, World.ownsRow_nil _ _ _ _⟩⟩
    case round =>
      obtain ⟨j, hj, rfl, ⟨xs, q, v, HP, hF, hown⟩ | ⟨HP, s1, v, hF⟩⟩ := hrel
      · clear F4
        have FR := hide hF
        clear hF
        obtain ⟨ao, cp, rfl⟩ := row_shape hown
        have hal := pTo_len HP.out
        have hxlt := FR.out.x.lt
        by_cases hlt : j < n
        · have hlt' : ((j : Nat) : Int) < ((n : Nat) : Int) := by omega
          have x0 := FR.out.x.c0
          have c3 := FR.out.x.c2
          have f3 := FR.out.xs 2
          have t1 := FR.out.t.c1
          have hhx := FR.out.hx
          go_wp2_with fail
          go_region_law (first
            | (refine step_append_lies _ (by rfl) _ _ 27 (by rfl) (bx + 1) 9 i0 (.string ⟨#[]⟩) 1 16 Try.underlying27 hi hz0 hz1 hz2 rfl (by omega) (.slice ao j cp) j (rowT xs) (by rfl) (hown3.alloc _) ⟨w3.heap.size, 0, none⟩ 1 1 [.string (tkS (tkT false ⟨q.toArray⟩))] (by rfl) (by rfl) (fun j u hj => by match j, hj with | 0, hj => (simp at hj; subst hj; simp [Addr.add])) (fun u hu => by simp at hu; subst hu; rfl) (by omega) (by unfold maxLen; omega) (by omega) (by simp; omega) (w3.heap.size + 1) (by simp) ?_; intro g cap w4 hown4 hgrow hat hlt4; have F4 := hide ((F3.out.grow (S := fun j => bx < j) ((Kept.refl _ _).alloc (.cells #[.string (tkS (tkT false ⟨q.toArray⟩))] 9)) (fun _ e => e)).grow (S := fun j => bx < j) ((Kept.refl _ _).grown hgrow (fun k hk => .inl (hown3.lt k hk).1)) (fun _ e => e)); have hc4 := F4.out.x.c2; have hf4 := F4.out.xs 2)
            | (go_simp; refine (told_all (w.heap.size + 1) ⟨q.toArray⟩ false _ (FR.out.t.kept (S := fun _ => False) ((Kept.refl _ _).drewN 1) (fun e => e))).mono ?_; rintro e w3 ⟨rfl, ⟨s3, ht3, hs3⟩, hk3⟩; have hk3a : Kept (one (w.heap.size + 1)) wr w3 := ((Kept.refl _ _).drewN 1).trans hk3; have F3 := hide (FR.out.taken hk3a ht3); have S3 := hide hs3; have hc3 := F3.out.x.c2; have hc3a : ∀ o, (w3.alloc o).cell? ⟨bx, 2, none⟩ = some (.slice ao j cp) := fun o => ((Kept.refl (fun _ => False) w3).alloc o).cell' hc3 (fun e => e); have hown3 := hk3a.owns hown (fun k hv hs => by have := (hown.lt k hv).1; simp only [one] at hs; omega); have hsz3 : wr.heap.size ≤ w3.heap.size := hk3a.size; clear hs3 ht3))
          all_goals
            have F5 := hide (F4.out.set2 (.slice (some ⟨g, 0, none⟩) (j + 1) cap))
            have O5 : Hid ((w4.setCell ⟨bx, 2, none⟩ (.slice (some ⟨g, 0, none⟩) (j + 1) cap)).ownsRow (bx + 1) 9 1 (.slice (some ⟨g, 0, none⟩) (j + 1) cap) (j + 1) (rowT (xs ++ [tkS (tkT false ⟨q.toArray⟩)]))) := ((Kept.refl (one bx) w4).set1 2 (.slice (some ⟨g, 0, none⟩) (j + 1) cap)).owns (by simpa [rowT] using hown4) (fun k hk e => by have := (hown4.lt k hk).1; simp only [one] at e; omega)
            clear x0 c3 f3 t1 F4 F3 FR hown hown3 hown4 hgrow hat hlt4 hc4 hf4 hc3 hc3a hk3 hk3a
            generalize World.setCell w4 _ _ = W5 at *
            go_wp2_with fail
            go_roundw
            case rel =>
              refine ⟨j + 1, by omega, by go_num, ?_⟩
              have e1 : (ByteArray.mk q.toArray).data.toList = q := by simp
              cases ho : tkT false ⟨q.toArray⟩ with
              | none =>
                rw [ho] at F5
                have hp : pText q = none := by rw [tkT, e1] at ho; exact ho
                exact .inr ⟨pTo_none (k := j + 1) (by rw [pTo, HP.out]; simp [hp]) n (by omega), s3, _, F5.out⟩
              | some y =>
                obtain ⟨y1, q2⟩ := y
                rw [ho] at F5 O5
                have hp : pText q = some (y1, q2) := by rw [tkT, e1] at ho; exact ho
                have es := S3.out y1 q2 ho
                subst es
                exact .inl ⟨xs ++ [y1], q2, _, by rw [Hid, pTo, HP.out]; simp [hp], F5.out, O5.out⟩
            case measure => simp [intOf]; omega
        · have hge : ¬ ((j : Nat) : Int) < ((n : Nat) : Int) := by omega
          obtain rfl : j = n := by omega
          have OW := hide hown
          clear hown
          cases q with
          | cons c3 q3 =>
            have HDN := hide (HN1.out xs c3 q3 HP.out)
            clear HN0 HN1 HS1
            have hT : (ByteArray.mk (c3 :: q3).toArray).toList.isEmpty = false := by rw [ByteArray.toList_eq]; rfl
            generalize ByteArray.mk (c3 :: q3).toArray = T3 at *
            obtain ⟨r0, r1, r2, r3, r4, rlt⟩ := FR.out.r
            have g0 := FR.out.rs 0
            have g1 := FR.out.rs 1
            have g2 := FR.out.rs 2
            have g3 := FR.out.rs 3
            have g4 := FR.out.rs 4
            have t0 := FR.out.t.c0
            have t1 := FR.out.t.c1
            have hbz := FR.out.c
            go_wp2_with fail
            refine bodyPost_ret (v := .tuple #[.agg #[.int .i64 0, .string ⟨#[]⟩, .slice none 0 0, .slice none 0 0, .slice none 0 0], .int .i64 1]) (by simp [results, Try.results12, go_sem, r0, r1, r2, r3, r4]) rfl ⟨_, by rw [HDN.out.1], fun W' _ => by rw [HDN.out.2]; exact zero_isd W', ?_⟩
            clear FR
            go_grown
          | nil =>
            have HPE := hide (HS1.out xs HP.out).1
            have HDS := hide (HS1.out xs HP.out).2
            have hl255 : xs.length ≤ 255 := by omega
            clear HN0 HN1 HS1 HP
            obtain rfl := hal
            have hal : xs.length = xs.length := rfl
            have I9 : Hid (∀ W', Stays (bx + 1) wr W' → ItemIs W' (.agg #[.int .i64 2, .string ⟨#[]⟩, .slice ao xs.length cp, .slice none 0 0, .slice none 0 0]) ⟨2, ⟨#[]⟩, xs, [], []⟩) := fun W' ST => ⟨⟨ao, cp, none, 0, none, 0, rfl, textsd_from (xs := xs) (OW.out) ST, .inl rfl, .inl rfl⟩, (show (0 : Nat) ≤ maxLen by simp), (fun t ht => Nat.le_trans (pEach_all (P := fun t => t.size ≤ 255) (fun _ _ _ h => pText_size h) HPE.out t ht) (by unfold maxLen; omega)), by simp, by simp, (by simp only; omega), by simp, by simp⟩
            clear OW HPE hal
            have HC := hide (refCheck_any (.agg #[.int .i64 2, .string ⟨#[]⟩, .slice ao xs.length cp, .slice none 0 0, .slice none 0 0]) (⟨2, ⟨#[]⟩, xs, [], []⟩) wr (I9.out _ (fun _ _ _ _ h => h)))
            obtain ⟨E, hE⟩ : ∃ E, E = chkI (⟨2, ⟨#[]⟩, xs, [], []⟩) := ⟨_, rfl⟩
            have HDE := hide HDS.out.1
            have HR0 := hide HDS.out.2.1
            have HRn := hide HDS.out.2.2
            rw [← hE] at HC HDE HR0 HRn
            clear hE HDS
            obtain ⟨x0, x1, x2, x3, x4, xlt⟩ := FR.out.x
            have t0 := FR.out.t.c0
            have t1 := FR.out.t.c1
            go_wp2_with fail
            refine HC.out.mono ?_
            rintro e w9 ⟨rfl, hb9⟩
            have FX := hide (FR.out.grow (S := fun _ => False) (Kept.of_below hb9 _) (fun _ e => e.elim))
            have hzb := hb9.size
            have I3 : Hid (∀ W', Stays (bx + 1) w9 W' → ItemIs W' (.agg #[.int .i64 2, .string ⟨#[]⟩, .slice ao xs.length cp, .slice none 0 0, .slice none 0 0]) (⟨2, ⟨#[]⟩, xs, [], []⟩)) := fun W' hW' => I9.out W' (fun g o u hg hu => hW' g o u hg ((hb9.cell (p := ⟨g, o, none⟩) (World.block_lt_of_cell? _ _ hu)).trans hu))
            clear x0 x1 x2 x3 x4 xlt t0 t1 HC I9 FR hb9
            obtain ⟨x0, x1, x2, x3, x4, xlt⟩ := FX.out.x
            obtain ⟨r0, r1, r2, r3, r4, rlt⟩ := FX.out.r
            have g0 := FX.out.rs 0
            have g1 := FX.out.rs 1
            have g2 := FX.out.rs 2
            have g3 := FX.out.rs 3
            have g4 := FX.out.rs 4
            have hbz := FX.out.c
            have hxx := FX.out.hx
            have ne5 : bx ≠ w.heap.size := by omega
            have ne6 : w.heap.size ≠ bx := by omega
            by_cases h0 : E = 0
            · have HRX := hide (HR0.out h0)
              clear HR0 HRn
              subst h0
              go_wp2_with fail
              refine bodyPost_ret (v := .tuple #[.agg #[.int .i64 2, .string ⟨#[]⟩, .slice ao xs.length cp, .slice none 0 0, .slice none 0 0], .int .i64 0]) (by simp [results, Try.results12, go_sem, r0, r1, r2, r3, r4]) rfl ⟨_, by rw [HDE.out], fun W' hW' => ?_, ?_⟩
              · rw [HRX.out]
                exact I3.out W' (fun g o u hg hu => hW' g o u (by omega) ((five_off _ _ _ _ _ _ _ g o (by omega)).trans hu))
              · clear I3 FX
                go_grown
            · have HRX := hide (HRn.out h0)
              have h0' : (E == 0) = false := by rw [beq_eq_false_iff_ne]; exact h0
              clear HR0 HRn
              go_wp2_with fail
              refine bodyPost_ret (v := .tuple #[.agg #[.int .i64 0, .string ⟨#[]⟩, .slice none 0 0, .slice none 0 0, .slice none 0 0], .int .i64 E]) (by simp [results, Try.results12, go_sem, r0, r1, r2, r3, r4]) rfl ⟨_, by rw [HDE.out], fun W' hW' => ?_, ?_⟩
              · rw [HRX.out]
                exact zero_isd W'
              · clear I3 FX
                go_grown
      · have FR := hide hF
        have HDN := hide (HN0.out HP.out)
        clear hF F4 HN0 HN1 HS1 HP
        by_cases hlt : ((j : Nat) : Int) < ((n : Nat) : Int)
        · obtain ⟨r0, r1, r2, r3, r4, rlt⟩ := FR.out.r
          have g0 := FR.out.rs 0
          have g1 := FR.out.rs 1
          have g2 := FR.out.rs 2
          have g3 := FR.out.rs 3
          have g4 := FR.out.rs 4
          have t0 := FR.out.t.c0
          have t1 := FR.out.t.c1
          have hbz := FR.out.c
          go_wp2_with fail
          refine bodyPost_ret (v := .tuple #[.agg #[.int .i64 0, .string ⟨#[]⟩, .slice none 0 0, .slice none 0 0, .slice none 0 0], .int .i64 1]) (by simp [results, Try.results12, go_sem, r0, r1, r2, r3, r4]) rfl ⟨_, by rw [HDN.out.1], fun W' _ => by rw [HDN.out.2]; exact zero_isd W', ?_⟩
          clear FR
          go_grown
        · obtain ⟨r0, r1, r2, r3, r4, rlt⟩ := FR.out.r
          have g0 := FR.out.rs 0
          have g1 := FR.out.rs 1
          have g2 := FR.out.rs 2
          have g3 := FR.out.rs 3
          have g4 := FR.out.rs 4
          have t0 := FR.out.t.c0
          have t1 := FR.out.t.c1
          have hbz := FR.out.c
          go_wp2_with fail
          refine bodyPost_ret (v := .tuple #[.agg #[.int .i64 0, .string ⟨#[]⟩, .slice none 0 0, .slice none 0 0, .slice none 0 0], .int .i64 1]) (by simp [results, Try.results12, go_sem, r0, r1, r2, r3, r4]) rfl ⟨_, by rw [HDN.out.1], fun W' _ => by rw [HDN.out.2]; exact zero_isd W', ?_⟩
          clear FR
          go_grown
set_option maxRecDepth 100000 in
set_option maxHeartbeats 16000000 in
theorem itemOf_3 (s : ByteArray) (c : UInt8) (l : List UInt8) (w : World) (hs : s.size ≤ 281474976710656) (hl : s = ⟨(c :: l).toArray⟩) (hc : c.toNat = 3) (HPN : Hid (whole (pEach pText l) = none → decE s.data.toList = 1 ∧ decI s.data.toList = Itm.none)) (HPS : Hid (∀ xs, whole (pEach pText l) = some xs → decE s.data.toList = chkI ⟨3, ⟨#[]⟩, xs, [], []⟩ ∧ (chkI ⟨3, ⟨#[]⟩, xs, [], []⟩ = 0 → decI s.data.toList = ⟨3, ⟨#[]⟩, xs, [], []⟩) ∧ (chkI ⟨3, ⟨#[]⟩, xs, [], []⟩ ≠ 0 → decI s.data.toList = Itm.none))) :
    Calls Try.prog 12 #[.string s] w fun e w' => ∃ u, e = .returned (.tuple #[u, .int .i64 (decE s.data.toList)]) ∧ (∀ W, Stays w.heap.size w' W → ItemIs W u (decI s.data.toList)) ∧ Below w.heap.size w w' := by
  obtain ⟨i0, hi, hz0, hz1, hz2⟩ := info_parts info_t
  have HO : Hid (∀ W, TakeAt (w.heap.size + 1) s false W → Calls Try.prog 33 #[.pointer (some ⟨w.heap.size + 1, 0, none⟩)] W fun e w' => e = .returned (.int .i64 3) ∧ TakeAt (w.heap.size + 1) ⟨l.toArray⟩ false w' ∧ Kept (one (w.heap.size + 1)) W w') := fun W hW => by
    have hh := takerOne_ok (w.heap.size + 1) c l W (by rw [← hl]; exact hW)
    rw [hc] at hh
    exact hh
  have HSS := hide hs
  clear hl hc hs
  cases l with
  | nil =>
    have HDN := hide (HPN.out rfl)
    clear HPN HPS
    go_enter Try.func12, Try.ntmps12
    go_wp2_with fail
    generalize hW : World.alloc _ _ = W
    have BG := hide (begin_of s w W (by rw [← hW]) HSS.out)
    clear hW
    refine (HO.out W BG.out.2.2.1).mono ?_
    rintro e w1 ⟨rfl, h1, hk1⟩
    have F0 := hide (OfAt.start (k := 3) BG.out hk1 h1)
    have hxx := F0.out.hx
    have t0 := h1.c0
    have t1 := h1.c1
    clear h1 hk1 BG
    go_wp2_with fail
    clear t0 t1
    generalize hbx : w1.heap.size = bx at *
    generalize hW2 : World.alloc w1 _ = W2 at *
    clear hW2 hbx
    obtain ⟨x0, x1, x2, x3, x4, xlt⟩ := F0.out.x
    have t0 := F0.out.t.c0
    have t1 := F0.out.t.c1
    refine (bn15 _ _ (by omega) (by omega)).mono ?_
    rintro e w3 ⟨rfl, rfl⟩
    go_wp2_with fail
    clear x0 x1 x2 x3 x4 xlt t0 t1 HO HSS
    refine (takerOne_bad (w.heap.size + 1) ⟨#[]⟩ false _ F0.out.t (.inr rfl)).mono ?_
    rintro e w4 ⟨rfl, h4, hk4⟩
    have F4 := hide (F0.out.taken hk4 h4)
    clear F0 h4 hk4
    go_wp2_with fail
    refine wp_loop_rounds 1 ?_
    rw [rounds_succ]
    obtain ⟨r0, r1, r2, r3, r4, rlt⟩ := F4.out.r
    have g0 := F4.out.rs 0
    have g1 := F4.out.rs 1
    have g2 := F4.out.rs 2
    have g3 := F4.out.rs 3
    have g4 := F4.out.rs 4
    have t0 := F4.out.t.c0
    have t1 := F4.out.t.c1
    have hbz := F4.out.c
    go_wp2_with fail
    refine bodyPost_ret (v := .tuple #[.agg #[.int .i64 0, .string ⟨#[]⟩, .slice none 0 0, .slice none 0 0, .slice none 0 0], .int .i64 1]) (by simp [results, Try.results12, go_sem, r0, r1, r2, r3, r4]) rfl ⟨_, by rw [HDN.out.1], fun W' _ => by rw [HDN.out.2]; exact zero_isd W', ?_⟩
    clear F4
    go_grown
  | cons c2 r =>
    have hcb := byte_lt c2
    go_enter Try.func12, Try.ntmps12
    go_wp2_with fail
    generalize hW : World.alloc _ _ = W
    have BG := hide (begin_of s w W (by rw [← hW]) HSS.out)
    clear hW
    refine (HO.out W BG.out.2.2.1).mono ?_
    rintro e w1 ⟨rfl, h1, hk1⟩
    have F0 := hide (OfAt.start (k := 3) BG.out hk1 h1)
    have hxx := F0.out.hx
    have t0 := h1.c0
    have t1 := h1.c1
    clear h1 hk1 BG
    go_wp2_with fail
    clear t0 t1
    generalize hbx : w1.heap.size = bx at *
    generalize hW2 : World.alloc w1 _ = W2 at *
    clear hW2 hbx
    obtain ⟨x0, x1, x2, x3, x4, xlt⟩ := F0.out.x
    have t0 := F0.out.t.c0
    have t1 := F0.out.t.c1
    refine (bn15 _ _ (by omega) (by omega)).mono ?_
    rintro e w3 ⟨rfl, rfl⟩
    go_wp2_with fail
    clear x0 x1 x2 x3 x4 xlt t0 t1 HO HSS
    refine (takerOne_ok (w.heap.size + 1) c2 r _ F0.out.t).mono ?_
    rintro e w4 ⟨rfl, h4, hk4⟩
    have F4 := hide (F0.out.taken hk4 h4)
    clear F0 h4 hk4
    have HN0 : Hid (pTo pText r c2.toNat = none → decE s.data.toList = 1 ∧ decI s.data.toList = Itm.none) := fun h => HPN.out (by rw [pEach, h]; rfl)
    have HN1 : Hid (∀ xs c3 q3, pTo pText r c2.toNat = some (xs, c3 :: q3) → decE s.data.toList = 1 ∧ decI s.data.toList = Itm.none) := fun xs c3 q3 h => HPN.out (by rw [pEach, h]; rfl)
    have HS1 : Hid (∀ xs, pTo pText r c2.toNat = some (xs, []) → pEach pText (c2 :: r) = some (xs, []) ∧ decE s.data.toList = chkI ⟨3, ⟨#[]⟩, xs, [], []⟩ ∧ (chkI ⟨3, ⟨#[]⟩, xs, [], []⟩ = 0 → decI s.data.toList = ⟨3, ⟨#[]⟩, xs, [], []⟩) ∧ (chkI ⟨3, ⟨#[]⟩, xs, [], []⟩ ≠ 0 → decI s.data.toList = Itm.none)) := fun xs h => ⟨by rw [pEach, h], HPS.out xs (by rw [pEach, h]; rfl)⟩
    clear HPN HPS
    have hn255 : c2.toNat ≤ 255 := by omega
    generalize c2.toNat = n at *
    go_wp2_with fail
    go_loopw [7] (fun i wr => ∃ (j : Nat), j ≤ n ∧ i = .int .i64 j ∧ ((∃ (xs : List (ByteArray)) (q : List UInt8) (v : Value), Hid (pTo pText r j = some (xs, q)) ∧ OfAt bx w wr ⟨q.toArray⟩ false (.int .i64 3) (.string ⟨#[]⟩) (v) (.slice none 0 0) (.slice none 0 0) ∧ wr.ownsRow (bx + 1) 9 1 v j (rowT xs)) ∨ (Hid (pTo pText r n = none) ∧ ∃ s1 v, OfAt bx w wr s1 true (.int .i64 3) (.string ⟨#[]⟩) (v) (.slice none 0 0) (.slice none 0 0)))) (fun i _ => n - (intOf i).toNat)
    case atStart => exact ⟨0, by omega, rfl, .inl ⟨[], r, .slice none 0 0, rfl, F4.out, World.ownsRow_nil _ _ _ _⟩⟩
    case round =>
      obtain ⟨j, hj, rfl, ⟨xs, q, v, HP, hF, hown⟩ | ⟨HP, s1, v, hF⟩⟩ := hrel
      · clear F4
        have FR := hide hF
        clear hF
        obtain ⟨ao, cp, rfl⟩ := row_shape hown
        have hal := pTo_len HP.out
        have hxlt := FR.out.x.lt
        by_cases hlt : j < n
        · have hlt' : ((j : Nat) : Int) < ((n : Nat) : Int) := by omega
          have x0 := FR.out.x.c0
          have c3 := FR.out.x.c2
          have f3 := FR.out.xs 2
          have t1 := FR.out.t.c1
          have hhx := FR.out.hx
          go_wp2_with fail
          go_region_law (first
            | (refine step_append_lies _ (by rfl) _ _ 27 (by rfl) (bx + 1) 9 i0 (.string ⟨#[]⟩) 1 16 Try.underlying27 hi hz0 hz1 hz2 rfl (by omega) (.slice ao j cp) j (rowT xs) (by rfl) (hown3.alloc _) ⟨w3.heap.size, 0, none⟩ 1 1 [.string (tkS (tkT false ⟨q.toArray⟩))] (by rfl) (by rfl) (fun j u hj => by match j, hj with | 0, hj => (simp at hj; subst hj; simp [Addr.add])) (fun u hu => by simp at hu; subst hu; rfl) (by omega) (by unfold maxLen; omega) (by omega) (by simp; omega) (w3.heap.size + 1) (by simp) ?_; intro g cap w4 hown4 hgrow hat hlt4; have F4 := hide ((F3.out.grow (S := fun j => bx < j) ((Kept.refl _ _).alloc (.cells #[.string (tkS (tkT false ⟨q.toArray⟩))] 9)) (fun _ e => e)).grow (S := fun j => bx < j) ((Kept.refl _ _).grown hgrow (fun k hk => .inl (hown3.lt k hk).1)) (fun _ e => e)); have hc4 := F4.out.x.c2; have hf4 := F4.out.xs 2)
            | (go_simp; refine (told_all (w.heap.size + 1) ⟨q.toArray⟩ false _ (FR.out.t.kept (S := fun _ => False) ((Kept.refl _ _).drewN 1) (fun e => e))).mono ?_; rintro e w3 ⟨rfl, ⟨s3, ht3, hs3⟩, hk3⟩; have hk3a : Kept (one (w.heap.size + 1)) wr w3 := ((Kept.refl _ _).drewN 1).trans hk3; have F3 := hide (FR.out.taken hk3a ht3); have S3 := hide hs3; have hc3 := F3.out.x.c2; have hc3a : ∀ o, (w3.alloc o).cell? ⟨bx, 2, none⟩ = some (.slice ao j cp) := fun o => ((Kept.refl (fun _ => False) w3).alloc o).cell' hc3 (fun e => e); have hown3 := hk3a.owns hown (fun k hv hs => by have := (hown.lt k hv).1; simp only [one] at hs; omega); have hsz3 : wr.heap.size ≤ w3.heap.size := hk3a.size; clear hs3 ht3))
          all_goals
            have F5 := hide (F4.out.set2 (.slice (some ⟨g, 0, none⟩) (j + 1) cap))
            have O5 : Hid ((w4.setCell ⟨bx, 2, none⟩ (.slice (some ⟨g, 0, none⟩) (j + 1) cap)).ownsRow (bx + 1) 9 1 (.slice (some ⟨g, 0, none⟩) (j + 1) cap) (j + 1) (rowT (xs ++ [tkS (tkT false ⟨q.toArray⟩)]))) := ((Kept.refl (one bx) w4).set1 2 (.slice (some ⟨g, 0, none⟩) (j + 1) cap)).owns (by simpa [rowT] using hown4) (fun k hk e => by have := (hown4.lt k hk).1; simp only [one] at e; omega)
            clear x0 c3 f3 t1 F4 F3 FR hown hown3 hown4 hgrow hat hlt4 hc4 hf4 hc3 hc3a hk3 hk3a
            generalize World.setCell w4 _ _ = W5 at *
            go_wp2_with fail
            go_roundw
            case rel =>
              refine ⟨j + 1, by omega, by go_num, ?_⟩
              have e1 : (ByteArray.mk q.toArray).data.toList = q := by simp
              cases ho : tkT false ⟨q.toArray⟩ with
              | none =>
                rw [ho] at F5
                have hp : pText q = none := by rw [tkT, e1] at ho; exact ho
                exact .inr ⟨pTo_none (k := j + 1) (by rw [pTo, HP.out]; simp [hp]) n (by omega), s3, _, F5.out⟩
              | some y =>
                obtain ⟨y1, q2⟩ := y
                rw [ho] at F5 O5
                have hp : pText q = some (y1, q2) := by rw [tkT, e1] at ho; exact ho
                have es := S3.out y1 q2 ho
                subst es
                exact .inl ⟨xs ++ [y1], q2, _, by rw [Hid, pTo, HP.out]; simp [hp], F5.out, O5.out⟩
            case measure => simp [intOf]; omega
        · have hge : ¬ ((j : Nat) : Int) < ((n : Nat) : Int) := by omega
          obtain rfl : j = n := by omega
          have OW := hide hown
          clear hown
          cases q with
          | cons c3 q3 =>
            have HDN := hide (HN1.out xs c3 q3 HP.out)
            clear HN0 HN1 HS1
            have hT : (ByteArray.mk (c3 :: q3).toArray).toList.isEmpty = false := by rw [ByteArray.toList_eq]; rfl
            generalize ByteArray.mk (c3 :: q3).toArray = T3 at *
            obtain ⟨r0, r1, r2, r3, r4, rlt⟩ := FR.out.r
            have g0 := FR.out.rs 0
            have g1 := FR.out.rs 1
            have g2 := FR.out.rs 2
            have g3 := FR.out.rs 3
            have g4 := FR.out.rs 4
            have t0 := FR.out.t.c0
            have t1 := FR.out.t.c1
            have hbz := FR.out.c
            go_wp2_with fail
            refine bodyPost_ret (v := .tuple #[.agg #[.int .i64 0, .string ⟨#[]⟩, .slice none 0 0, .slice none 0 0, .slice none 0 0], .int .i64 1]) (by simp [results, Try.results12, go_sem, r0, r1, r2, r3, r4]) rfl ⟨_, by rw [HDN.out.1], fun W' _ => by rw [HDN.out.2]; exact zero_isd W', ?_⟩
            clear FR
            go_grown
          | nil =>
            have HPE := hide (HS1.out xs HP.out).1
            have HDS := hide (HS1.out xs HP.out).2
            have hl255 : xs.length ≤ 255 := by omega
            clear HN0 HN1 HS1 HP
            obtain rfl := hal
            have hal : xs.length = xs.length := rfl
            have I9 : Hid (∀ W', Stays (bx + 1) wr W' → ItemIs W' (.agg #[.int .i64 3, .string ⟨#[]⟩, .slice ao xs.length cp, .slice none 0 0, .slice none 0 0]) ⟨3, ⟨#[]⟩, xs, [], []⟩) := fun W' ST => ⟨⟨ao, cp, none, 0, none, 0, rfl, textsd_from (xs := xs) (OW.out) ST, .inl rfl, .inl rfl⟩, (show (0 : Nat) ≤ maxLen by simp), (fun t ht => Nat.le_trans (pEach_all (P := fun t => t.size ≤ 255) (fun _ _ _ h => pText_size h) HPE.out t ht) (by unfold maxLen; omega)), by simp, by simp, (by simp only; omega), by simp, by simp⟩
            clear OW HPE hal
            have HC := hide (refCheck_any (.agg #[.int .i64 3, .string ⟨#[]⟩, .slice ao xs.length cp, .slice none 0 0, .slice none 0 0]) (⟨3, ⟨#[]⟩, xs, [], []⟩) wr (I9.out _ (fun _ _ _ _ h => h)))
            obtain ⟨E, hE⟩ : ∃ E, E = chkI (⟨3, ⟨#[]⟩, xs, [], []⟩) := ⟨_, rfl⟩
            have HDE := hide HDS.out.1
            have HR0 := hide HDS.out.2.1
            have HRn := hide HDS.out.2.2
            rw [← hE] at HC HDE HR0 HRn
            clear hE HDS
            obtain ⟨x0, x1, x2, x3, x4, xlt⟩ := FR.out.x
            have t0 := FR.out.t.c0
            have t1 := FR.out.t.c1
            go_wp2_with fail
            refine HC.out.mono ?_
            rintro e w9 ⟨rfl, hb9⟩
            have FX := hide (FR.out.grow (S := fun _ => False) (Kept.of_below hb9 _) (fun _ e => e.elim))
            have hzb := hb9.size
            have I3 : Hid (∀ W', Stays (bx + 1) w9 W' → ItemIs W' (.agg #[.int .i64 3, .string ⟨#[]⟩, .slice ao xs.length cp, .slice none 0 0, .slice none 0 0]) (⟨3, ⟨#[]⟩, xs, [], []⟩)) := fun W' hW' => I9.out W' (fun g o u hg hu => hW' g o u hg ((hb9.cell (p := ⟨g, o, none⟩) (World.block_lt_of_cell? _ _ hu)).trans hu))
            clear x0 x1 x2 x3 x4 xlt t0 t1 HC I9 FR hb9
            obtain ⟨x0, x1, x2, x3, x4, xlt⟩ := FX.out.x
            obtain ⟨r0, r1, r2, r3, r4, rlt⟩ := FX.out.r
            have g0 := FX.out.rs 0
            have g1 := FX.out.rs 1
            have g2 := FX.out.rs 2
            have g3 := FX.out.rs 3
            have g4 := FX.out.rs 4
            have hbz := FX.out.c
            have hxx := FX.out.hx
            have ne5 : bx ≠ w.heap.size := by omega
            have ne6 : w.heap.size ≠ bx := by omega
            by_cases h0 : E = 0
            · have HRX := hide (HR0.out h0)
              clear HR0 HRn
              subst h0
              go_wp2_with fail
              refine bodyPost_ret (v := .tuple #[.agg #[.int .i64 3, .string ⟨#[]⟩, .slice ao xs.length cp, .slice none 0 0, .slice none 0 0], .int .i64 0]) (by simp [results, Try.results12, go_sem, r0, r1, r2, r3, r4]) rfl ⟨_, by rw [HDE.out], fun W' hW' => ?_, ?_⟩
              · rw [HRX.out]
                exact I3.out W' (fun g o u hg hu => hW' g o u (by omega) ((five_off _ _ _ _ _ _ _ g o (by omega)).trans hu))
              · clear I3 FX
                go_grown
            · have HRX := hide (HRn.out h0)
              have h0' : (E == 0) = false := by rw [beq_eq_false_iff_ne]; exact h0
              clear HR0 HRn
              go_wp2_with fail
              refine bodyPost_ret (v := .tuple #[.agg #[.int .i64 0, .string ⟨#[]⟩, .slice none 0 0, .slice none 0 0, .slice none 0 0], .int .i64 E]) (by simp [results, Try.results12, go_sem, r0, r1, r2, r3, r4]) rfl ⟨_, by rw [HDE.out], fun W' hW' => ?_, ?_⟩
              · rw [HRX.out]
                exact zero_isd W'
              · clear I3 FX
                go_grown
      · have FR := hide hF
        have HDN := hide (HN0.out HP.out)
        clear hF F4 HN0 HN1 HS1 HP
        by_cases hlt : ((j : Nat) : Int) < ((n : Nat) : Int)
        · obtain ⟨r0, r1, r2, r3, r4, rlt⟩ := FR.out.r
          have g0 := FR.out.rs 0
          have g1 := FR.out.rs 1
          have g2 := FR.out.rs 2
          have g3 := FR.out.rs 3
          have g4 := FR.out.rs 4
          have t0 := FR.out.t.c0
          have t1 := FR.out.t.c1
          have hbz := FR.out.c
          go_wp2_with fail
          refine bodyPost_ret (v := .tuple #[.agg #[.int .i64 0, .string ⟨#[]⟩, .slice none 0 0, .slice none 0 0, .slice none 0 0], .int .i64 1]) (by simp [results, Try.results12, go_sem, r0, r1, r2, r3, r4]) rfl ⟨_, by rw [HDN.out.1], fun W' _ => by rw [HDN.out.2]; exact zero_isd W', ?_⟩
          clear FR
          go_grown
        · obtain ⟨r0, r1, r2, r3, r4, rlt⟩ := FR.out.r
          have g0 := FR.out.rs 0
          have g1 := FR.out.rs 1
          have g2 := FR.out.rs 2
          have g3 := FR.out.rs 3
          have g4 := FR.out.rs 4
          have t0 := FR.out.t.c0
          have t1 := FR.out.t.c1
          have hbz := FR.out.c
          go_wp2_with fail
          refine bodyPost_ret (v := .tuple #[.agg #[.int .i64 0, .string ⟨#[]⟩, .slice none 0 0, .slice none 0 0, .slice none 0 0], .int .i64 1]) (by simp [results, Try.results12, go_sem, r0, r1, r2, r3, r4]) rfl ⟨_, by rw [HDN.out.1], fun W' _ => by rw [HDN.out.2]; exact zero_isd W', ?_⟩
          clear FR
          go_grown

/-- a box of two cells -/
structure Duo (W : World) (b : Nat) (v0 v1 : Value) : Prop where
  c0 : W.cell? ⟨b, 0, none⟩ = some v0
  c1 : W.cell? ⟨b, 1, none⟩ = some v1
  f0 : W.frozen? ⟨b, 0, none⟩ = false
  f1 : W.frozen? ⟨b, 1, none⟩ = false
theorem Duo.new (w : World) (v0 v1 : Value) (T : Nat) : Duo (w.alloc (.cells #[v0, v1] T)) w.heap.size v0 v1 := ⟨by simp [go_sem], by simp [go_sem], by simp [go_sem], by simp [go_sem]⟩
theorem Duo.newS (w : World) (v0 v1 : Value) (p : Addr) (u : Value) (T : Nat) : Duo ((w.setCell p u).alloc (.cells #[v0, v1] T)) w.heap.size v0 v1 := by
  have h := Duo.new (w.setCell p u) v0 v1 T
  rw [show (w.setCell p u).heap.size = w.heap.size by simp] at h
  exact h
theorem Duo.kept {W W' : World} {b : Nat} {v0 v1 : Value} (h : Duo W b v0 v1) {S : Nat → Prop} (hk : Kept S W W') (hs : ¬ S b) : Duo W' b v0 v1 :=
  ⟨hk.cell' h.c0 hs, hk.cell' h.c1 hs, (hk.frozen (p := ⟨b, 0, none⟩) (World.block_lt_of_cell? _ _ h.c0) hs).trans h.f0, (hk.frozen (p := ⟨b, 1, none⟩) (World.block_lt_of_cell? _ _ h.c1) hs).trans h.f1⟩
theorem Duo.set0 {W : World} {b : Nat} {v0 v1 : Value} (h : Duo W b v0 v1) (v : Value) : Duo (W.setCell ⟨b, 0, none⟩ v) b v v1 :=
  ⟨World.cell?_setCell_same _ _ _ h.c0, (World.cell?_setCell_other _ _ _ _ (by simp)).trans h.c1, by simpa using h.f0, by simpa using h.f1⟩
theorem Duo.set1 {W : World} {b : Nat} {v0 v1 : Value} (h : Duo W b v0 v1) (v : Value) : Duo (W.setCell ⟨b, 1, none⟩ v) b v0 v :=
  ⟨(World.cell?_setCell_other _ _ _ _ (by simp)).trans h.c0, World.cell?_setCell_same _ _ _ h.c1, by simpa using h.f0, by simpa using h.f1⟩
set_option maxRecDepth 100000 in
set_option maxHeartbeats 16000000 in
theorem itemOf_4 (s : ByteArray) (c : UInt8) (l : List UInt8) (w : World) (hs : s.size ≤ 281474976710656) (hl : s = ⟨(c :: l).toArray⟩) (hc : c.toNat = 4) (HPN : Hid (whole (pEach ppair l) = none → decE s.data.toList = 1 ∧ decI s.data.toList = Itm.none)) (HPS : Hid (∀ xs, whole (pEach ppair l) = some xs → decE s.data.toList = chkI ⟨4, ⟨#[]⟩, [], xs, []⟩ ∧ (chkI ⟨4, ⟨#[]⟩, [], xs, []⟩ = 0 → decI s.data.toList = ⟨4, ⟨#[]⟩, [], xs, []⟩) ∧ (chkI ⟨4, ⟨#[]⟩, [], xs, []⟩ ≠ 0 → decI s.data.toList = Itm.none))) :
    Calls Try.prog 12 #[.string s] w fun e w' => ∃ u, e = .returned (.tuple #[u, .int .i64 (decE s.data.toList)]) ∧ (∀ W, Stays w.heap.size w' W → ItemIs W u (decI s.data.toList)) ∧ Below w.heap.size w w' := by
  obtain ⟨i0, hi, hz0, hz1, hz2⟩ := info_parts info_p
  have HO : Hid (∀ W, TakeAt (w.heap.size + 1) s false W → Calls Try.prog 33 #[.pointer (some ⟨w.heap.size + 1, 0, none⟩)] W fun e w' => e = .returned (.int .i64 4) ∧ TakeAt (w.heap.size + 1) ⟨l.toArray⟩ false w' ∧ Kept (one (w.heap.size + 1)) W w') := fun W hW => by
    have hh := takerOne_ok (w.heap.size + 1) c l W (by rw [← hl]; exact hW)
    rw [hc] at hh
    exact hh
  have HSS := hide hs
  clear hl hc hs
  cases l with
  | nil =>
    have HDN := hide (HPN.out rfl)
    clear HPN HPS
    go_enter Try.func12, Try.ntmps12
    go_wp2_with fail
    generalize hW : World.alloc _ _ = W
    have BG := hide (begin_of s w W (by rw [← hW]) HSS.out)
    clear hW
    refine (HO.out W BG.out.2.2.1).mono ?_
    rintro e w1 ⟨rfl, h1, hk1⟩
    have F0 := hide (OfAt.start (k := 4) BG.out hk1 h1)
    have hxx := F0.out.hx
    have t0 := h1.c0
    have t1 := h1.c1
    clear h1 hk1 BG
    go_wp2_with fail
    clear t0 t1
    generalize hbx : w1.heap.size = bx at *
    generalize hW2 : World.alloc w1 _ = W2 at *
    clear hW2 hbx
    obtain ⟨x0, x1, x2, x3, x4, xlt⟩ := F0.out.x
    have t0 := F0.out.t.c0
    have t1 := F0.out.t.c1
    refine (bn15 _ _ (by omega) (by omega)).mono ?_
    rintro e w3 ⟨rfl, rfl⟩
    go_wp2_with fail
    clear x0 x1 x2 x3 x4 xlt t0 t1 HO HSS
    refine (takerOne_bad (w.heap.size + 1) ⟨#[]⟩ false _ F0.out.t (.inr rfl)).mono ?_
    rintro e w4 ⟨rfl, h4, hk4⟩
    have F4 := hide (F0.out.taken hk4 h4)
    clear F0 h4 hk4
    go_wp2_with fail
    refine wp_loop_rounds 1 ?_
    rw [rounds_succ]
    obtain ⟨r0, r1, r2, r3, r4, rlt⟩ := F4.out.r
    have g0 := F4.out.rs 0
    have g1 := F4.out.rs 1
    have g2 := F4.out.rs 2
    have g3 := F4.out.rs 3
    have g4 := F4.out.rs 4
    have t0 := F4.out.t.c0
    have t1 := F4.out.t.c1
    have hbz := F4.out.c
    go_wp2_with fail
    refine bodyPost_ret (v := .tuple #[.agg #[.int .i64 0, .string ⟨#[]⟩, .slice none 0 0, .slice none 0 0, .slice none 0 0], .int .i64 1]) (by simp [results, Try.results12, go_sem, r0, r1, r2, r3, r4]) rfl ⟨_, by rw [HDN.out.1], fun W' _ => by rw [HDN.out.2]; exact zero_isd W', ?_⟩
    clear F4
    go_grown
  | cons c2 r =>
    have hcb := byte_lt c2
    go_enter Try.func12, Try.ntmps12
    go_wp2_with fail
    generalize hW : World.alloc _ _ = W
    have BG := hide (begin_of s w W (by rw [← hW]) HSS.out)
    clear hW
    refine (HO.out W BG.out.2.2.1).mono ?_
    rintro e w1 ⟨rfl, h1, hk1⟩
    have F0 := hide (OfAt.start (k := 4) BG.out hk1 h1)
    have hxx := F0.out.hx
    have t0 := h1.c0
    have t1 := h1.c1
    clear h1 hk1 BG
    go_wp2_with fail
    clear t0 t1
    generalize hbx : w1.heap.size = bx at *
    generalize hW2 : World.alloc w1 _ = W2 at *
    clear hW2 hbx
    obtain ⟨x0, x1, x2, x3, x4, xlt⟩ := F0.out.x
    have t0 := F0.out.t.c0
    have t1 := F0.out.t.c1
    refine (bn15 _ _ (by omega) (by omega)).mono ?_
    rintro e w3 ⟨rfl, rfl⟩
    go_wp2_with fail
    clear x0 x1 x2 x3 x4 xlt t0 t1 HO HSS
    refine (takerOne_ok (w.heap.size + 1) c2 r _ F0.out.t).mono ?_
    rintro e w4 ⟨rfl, h4, hk4⟩
    have F4 := hide (F0.out.taken hk4 h4)
    clear F0 h4 hk4
    have HN0 : Hid (pTo ppair r c2.toNat = none → decE s.data.toList = 1 ∧ decI s.data.toList = Itm.none) := fun h => HPN.out (by rw [pEach, h]; rfl)
    have HN1 : Hid (∀ xs c3 q3, pTo ppair r c2.toNat = some (xs, c3 :: q3) → decE s.data.toList = 1 ∧ decI s.data.toList = Itm.none) := fun xs c3 q3 h => HPN.out (by rw [pEach, h]; rfl)
    have HS1 : Hid (∀ xs, pTo ppair r c2.toNat = some (xs, []) → pEach ppair (c2 :: r) = some (xs, []) ∧ decE s.data.toList = chkI ⟨4, ⟨#[]⟩, [], xs, []⟩ ∧ (chkI ⟨4, ⟨#[]⟩, [], xs, []⟩ = 0 → decI s.data.toList = ⟨4, ⟨#[]⟩, [], xs, []⟩) ∧ (chkI ⟨4, ⟨#[]⟩, [], xs, []⟩ ≠ 0 → decI s.data.toList = Itm.none)) := fun xs h => ⟨by rw [pEach, h], HPS.out xs (by rw [pEach, h]; rfl)⟩
    clear HPN HPS
    have hn255 : c2.toNat ≤ 255 := by omega
    generalize c2.toNat = n at *
    go_wp2_with fail
    go_loopw [7] (fun i wr => ∃ (j : Nat), j ≤ n ∧ i = .int .i64 j ∧ ((∃ (xs : List (ByteArray × ByteArray)) (q : List UInt8) (v : Value), Hid (pTo ppair r j = some (xs, q)) ∧ OfAt bx w wr ⟨q.toArray⟩ false (.int .i64 4) (.string ⟨#[]⟩) (.slice none 0 0) (v) (.slice none 0 0) ∧ wr.ownsRow (bx + 1) 59 2 v j (rowP xs)) ∨ (Hid (pTo ppair r n = none) ∧ ∃ s1 v, OfAt bx w wr s1 true (.int .i64 4) (.string ⟨#[]⟩) (.slice none 0 0) (v) (.slice none 0 0)))) (fun i _ => n - (intOf i).toNat)
    case atStart => exact ⟨0, by omega, rfl, .inl ⟨[], r, .slice none 0 0, rfl, F4.out, World.ownsRow_nil _ _ _ _⟩⟩
    case round =>
      obtain ⟨j, hj, rfl, ⟨xs, q, v, HP, hF, hown⟩ | ⟨HP, s1, v, hF⟩⟩ := hrel
      · clear F4
        have FR := hide hF
        clear hF
        obtain ⟨ao, cp, rfl⟩ := row_shape hown
        have hal := pTo_len HP.out
        have hxlt := FR.out.x.lt
        by_cases hlt : j < n
        · have hlt' : ((j : Nat) : Int) < ((n : Nat) : Int) := by omega
          have x0 := FR.out.x.c0
          have t1 := FR.out.t.c1
          have hhx := FR.out.hx
          go_wp2_with fail
          have NB : Hid (∀ k, (Value.slice ao j cp).ownBlock = some k → w.heap.size + 1 < k ∧ k < wr.heap.size) := fun k hv => ⟨by have := (hown.lt k hv).1; omega, (hown.lt k hv).2⟩
          have FA := hide (FR.out.grow (S := fun _ => False) ((Kept.refl _ _).alloc (.cells #[.string ⟨#[]⟩, .string ⟨#[]⟩] 59)) (fun _ e => e.elim))
          have DA := hide (Duo.new wr (.string ⟨#[]⟩) (.string ⟨#[]⟩) 59)
          have OA := hide (((Kept.refl (fun _ => False) wr).alloc (.cells #[.string ⟨#[]⟩, .string ⟨#[]⟩] 59)).owns hown (fun _ _ e => e.elim))
          have hplA : wr.heap.size < (wr.alloc (.cells #[.string ⟨#[]⟩, .string ⟨#[]⟩] 59)).heap.size := by simp
          clear x0 t1 FR hown
          generalize hpb : wr.heap.size = pb at *
          generalize World.alloc wr _ = WA at *
          clear hpb
          refine (told_all (w.heap.size + 1) ⟨q.toArray⟩ false _ FA.out.t).mono ?_
          rintro e w3 ⟨rfl, ⟨s3, ht, hs⟩, hk⟩
          have F3 := hide (FA.out.taken hk ht)
          have D3 := hide (DA.out.kept hk (fun e => by simp only [one] at e; omega))
          have O3 := hide (hk.owns OA.out (fun k hv e => by have := NB.out k hv; simp only [one] at e; omega))
          have S3 := hide hs
          have hpl3 : pb < w3.heap.size := Nat.lt_of_lt_of_le hplA hk.size
          clear hs ht hk FA DA OA hplA
          generalize hTT : tkS (tkT false ⟨q.toArray⟩) = T1 at *
          have HT3 := hide hTT
          clear hTT
          obtain ⟨d0, d1, f0, f1⟩ := D3.out
          go_wp2_with fail
          have F4 := hide (F3.out.grow (S := one pb) ((Kept.refl _ _).set1 0 (.string T1)) (fun j e => by simp only [one] at e; omega))
          have D4 := hide (D3.out.set0 (.string T1))
          have O4 := hide (((Kept.refl (one pb) w3).set1 0 (.string T1)).owns O3.out (fun k hv e => by have := NB.out k hv; simp only [one] at e; omega))
          have hpl4 : pb < (w3.setCell ⟨pb, 0, none⟩ (.string T1)).heap.size := by simpa using hpl3
          clear F3 D3 O3 d0 d1 f0 f1 hpl3
          generalize World.setCell w3 _ _ = W4 at *
          refine (told_all (w.heap.size + 1) s3 (tkT false ⟨q.toArray⟩).isNone _ F4.out.t).mono ?_
          rintro e w5 ⟨rfl, ⟨s5, ht, hs⟩, hk⟩
          have F5 := hide (F4.out.taken hk ht)
          have D5 := hide (D4.out.kept hk (fun e => by simp only [one] at e; omega))
          have O5 := hide (hk.owns O4.out (fun k hv e => by have := NB.out k hv; simp only [one] at e; omega))
          have S5 := hide hs
          have hpl5 : pb < w5.heap.size := Nat.lt_of_lt_of_le hpl4 hk.size
          clear hs ht hk F4 D4 O4 hpl4
          generalize hTT : tkS (tkT (tkT false ⟨q.toArray⟩).isNone s3) = T2 at *
          have HT5 := hide hTT
          clear hTT
          obtain ⟨d0, d1, f0, f1⟩ := D5.out
          have x3 := F5.out.x.c3
          have xf := F5.out.xs 3
          have ne7 : bx ≠ pb := by omega
          have ne8 : pb ≠ bx := by omega
          have F6 := hide (F5.out.grow (S := one pb) ((Kept.refl _ _).set1 1 (.string T2)) (fun j e => by simp only [one] at e; omega))
          have O6 := hide (((Kept.refl (one pb) w5).set1 1 (.string T2)).owns O5.out (fun k hv e => by have := NB.out k hv; simp only [one] at e; omega))
          clear F5 O5 D5
          have DN := hide (Duo.newS w5 (.string T1) (.string T2) (⟨pb, 1, none⟩) (.string T2) 59)
          go_wp2_with (at_builtin; refine wpList_append_lies _ rfl _ _ 28 rfl (bx + 1) 59 i0 (.agg #[.string ⟨#[]⟩, .string ⟨#[]⟩]) 2 32 Try.underlying28 hi hz0 hz1 hz2 rfl (by decide) (.slice ao j cp) j (rowP xs) rfl (O6.out.alloc _) ⟨w5.heap.size, 0, none⟩ 1 1 [.string T1, .string T2] rfl rfl ?c1 ?c2 (by decide) ?c3 ?c4 ?c5 (w5.heap.size + 1) (by simp) ?_)
          case c1 =>
            intro j u hj
            match j, hj with
            | 0, hj => simp at hj; subst hj; simpa [Addr.add] using DN.out.c0
            | 1, hj => simp at hj; subst hj; simpa [Addr.add] using DN.out.c1
            | _ + 2, hj => simp at hj
          case c2 => intro u hu; simp at hu; rcases hu with rfl | rfl <;> rfl
          case c3 => unfold maxLen; omega
          case c4 => omega
          case c5 => simp; omega
          intro g cap w8 hown8 hgrow hat hlt8
          have F8 := hide ((F6.out.grow (S := fun j => bx < j) ((Kept.refl _ _).alloc (.cells #[.string T1, .string T2] 59)) (fun _ e => e)).grow (S := fun j => bx < j) ((Kept.refl _ _).grown hgrow (fun k hk => .inl (O6.out.lt k hk).1)) (fun _ e => e))
          have hc8 := F8.out.x.c3
          have hf8 := F8.out.xs 3
          clear x3 xf d0 d1 f0 f1 ne7 ne8
          go_wp2_with fail
          have F9 := hide (F8.out.set3 (.slice (some ⟨g, 0, none⟩) (j + 1) cap))
          have O9 : Hid ((w8.setCell ⟨bx, 3, none⟩ (.slice (some ⟨g, 0, none⟩) (j + 1) cap)).ownsRow (bx + 1) 59 2 (.slice (some ⟨g, 0, none⟩) (j + 1) cap) (j + 1) (rowP (xs ++ [(T1, T2)]))) := ((Kept.refl (one bx) w8).set1 3 (.slice (some ⟨g, 0, none⟩) (j + 1) cap)).owns (by simpa [rowP] using hown8) (fun k hk e => by have := (hown8.lt k hk).1; simp only [one] at e; omega)
          clear F8 F6 O6 hown8 hgrow hat hlt8 hc8 hf8
          generalize World.setCell w8 _ _ = W9 at *
          go_roundw
          case rel =>
            refine ⟨j + 1, by omega, by go_num, ?_⟩
            have e1 : (ByteArray.mk q.toArray).data.toList = q := by simp
            cases ho : tkT false ⟨q.toArray⟩ with
            | none =>
              rw [ho] at F9
              have hp : pText q = none := by rw [tkT, e1] at ho; exact ho
              exact .inr ⟨pTo_none (k := j + 1) (by rw [pTo, HP.out]; simp [ppair, hp]) n (by omega), s5, _, F9.out⟩
            | some y =>
              obtain ⟨y1, q2⟩ := y
              have hp : pText q = some (y1, q2) := by rw [tkT, e1] at ho; exact ho
              have es := S3.out y1 q2 ho
              subst es
              rw [ho] at F9 HT3 HT5 S5
              have e2 : (ByteArray.mk q2.toArray).data.toList = q2 := by simp
              cases ho2 : tkT false ⟨q2.toArray⟩ with
              | none =>
                have F9' : OfAt bx w W9 s5 (tkT false ⟨q2.toArray⟩).isNone (.int .i64 4) (.string ⟨#[]⟩) (.slice none 0 0) (.slice (some ⟨g, 0, none⟩) (j + 1) cap) (.slice none 0 0) := F9.out
                rw [ho2] at F9'
                have hp2 : pText q2 = none := by rw [tkT, e2] at ho2; exact ho2
                exact .inr ⟨pTo_none (k := j + 1) (by rw [pTo, HP.out]; simp [ppair, hp, hp2]) n (by omega), s5, _, F9'⟩
              | some z =>
                obtain ⟨z1, q3⟩ := z
                have F9' : OfAt bx w W9 s5 (tkT false ⟨q2.toArray⟩).isNone (.int .i64 4) (.string ⟨#[]⟩) (.slice none 0 0) (.slice (some ⟨g, 0, none⟩) (j + 1) cap) (.slice none 0 0) := F9.out
                rw [ho2] at F9'
                have hp2 : pText q2 = some (z1, q3) := by rw [tkT, e2] at ho2; exact ho2
                have es2 := S5.out z1 q3 ho2
                subst es2
                have eT1 : T1 = y1 := HT3.out.symm
                have eT2 : T2 = z1 := by
                  have h5 : tkS (tkT false ⟨q2.toArray⟩) = T2 := HT5.out
                  rw [ho2] at h5
                  exact h5.symm
                subst eT1 eT2
                exact .inl ⟨xs ++ [(T1, T2)], q3, _, by rw [Hid, pTo, HP.out]; simp [ppair, hp, hp2], F9', O9.out⟩
          case measure => simp [intOf]; omega
        · have hge : ¬ ((j : Nat) : Int) < ((n : Nat) : Int) := by omega
          obtain rfl : j = n := by omega
          have OW := hide hown
          clear hown
          cases q with
          | cons c3 q3 =>
            have HDN := hide (HN1.out xs c3 q3 HP.out)
            clear HN0 HN1 HS1
            have hT : (ByteArray.mk (c3 :: q3).toArray).toList.isEmpty = false := by rw [ByteArray.toList_eq]; rfl
            generalize ByteArray.mk (c3 :: q3).toArray = T3 at *
            obtain ⟨r0, r1, r2, r3, r4, rlt⟩ := FR.out.r
            have g0 := FR.out.rs 0
            have g1 := FR.out.rs 1
            have g2 := FR.out.rs 2
            have g3 := FR.out.rs 3
            have g4 := FR.out.rs 4
            have t0 := FR.out.t.c0
            have t1 := FR.out.t.c1
            have hbz := FR.out.c
            go_wp2_with fail
            refine bodyPost_ret (v := .tuple #[.agg #[.int .i64 0, .string ⟨#[]⟩, .slice none 0 0, .slice none 0 0, .slice none 0 0], .int .i64 1]) (by simp [results, Try.results12, go_sem, r0, r1, r2, r3, r4]) rfl ⟨_, by rw [HDN.out.1], fun W' _ => by rw [HDN.out.2]; exact zero_isd W', ?_⟩
            clear FR
            go_grown
          | nil =>
            have HPE := hide (HS1.out xs HP.out).1
            have HDS := hide (HS1.out xs HP.out).2
            have hl255 : xs.length ≤ 255 := by omega
            clear HN0 HN1 HS1 HP
            obtain rfl := hal
            have hal : xs.length = xs.length := rfl
            have I9 : Hid (∀ W', Stays (bx + 1) wr W' → ItemIs W' (.agg #[.int .i64 4, .string ⟨#[]⟩, .slice none 0 0, .slice ao xs.length cp, .slice none 0 0]) ⟨4, ⟨#[]⟩, [], xs, []⟩) := fun W' ST => ⟨⟨none, 0, ao, cp, none, 0, rfl, .inl rfl, pairsd_from (xs := xs) (OW.out) ST, .inl rfl⟩, (show (0 : Nat) ≤ maxLen by simp), by simp, (fun t ht => by have := pEach_all (P := fun t : ByteArray × ByteArray => t.1.size ≤ 255 ∧ t.2.size ≤ 255) (fun _ _ _ h => ppair_size h) HPE.out t ht; unfold maxLen; omega), by simp, by simp, (by simp only; omega), by simp⟩
            clear OW HPE hal
            have HC := hide (refCheck_any (.agg #[.int .i64 4, .string ⟨#[]⟩, .slice none 0 0, .slice ao xs.length cp, .slice none 0 0]) (⟨4, ⟨#[]⟩, [], xs, []⟩) wr (I9.out _ (fun _ _ _ _ h => h)))
            obtain ⟨E, hE⟩ : ∃ E, E = chkI (⟨4, ⟨#[]⟩, [], xs, []⟩) := ⟨_, rfl⟩
            have HDE := hide HDS.out.1
            have HR0 := hide HDS.out.2.1
            have HRn := hide HDS.out.2.2
            rw [← hE] at HC HDE HR0 HRn
            clear hE HDS
            obtain ⟨x0, x1, x2, x3, x4, xlt⟩ := FR.out.x
            have t0 := FR.out.t.c0
            have t1 := FR.out.t.c1
            go_wp2_with fail
            refine HC.out.mono ?_
            rintro e w9 ⟨rfl, hb9⟩
            have FX := hide (FR.out.grow (S := fun _ => False) (Kept.of_below hb9 _) (fun _ e => e.elim))
            have hzb := hb9.size
            have I3 : Hid (∀ W', Stays (bx + 1) w9 W' → ItemIs W' (.agg #[.int .i64 4, .string ⟨#[]⟩, .slice none 0 0, .slice ao xs.length cp, .slice none 0 0]) (⟨4, ⟨#[]⟩, [], xs, []⟩)) := fun W' hW' => I9.out W' (fun g o u hg hu => hW' g o u hg ((hb9.cell (p := ⟨g, o, none⟩) (World.block_lt_of_cell? _ _ hu)).trans hu))
            clear x0 x1 x2 x3 x4 xlt t0 t1 HC I9 FR hb9
            obtain ⟨x0, x1, x2, x3, x4, xlt⟩ := FX.out.x
            obtain ⟨r0, r1, r2, r3, r4, rlt⟩ := FX.out.r
            have g0 := FX.out.rs 0
            have g1 := FX.out.rs 1
            have g2 := FX.out.rs 2
            have g3 := FX.out.rs 3
            have g4 := FX.out.rs 4
            have hbz := FX.out.c
            have hxx := FX.out.hx
            have ne5 : bx ≠ w.heap.size := by omega
            have ne6 : w.heap.size ≠ bx := by omega
            by_cases h0 : E = 0
            · have HRX := hide (HR0.out h0)
              clear HR0 HRn
              subst h0
              go_wp2_with fail
              refine bodyPost_ret (v := .tuple #[.agg #[.int .i64 4, .string ⟨#[]⟩, .slice none 0 0, .slice ao xs.length cp, .slice none 0 0], .int .i64 0]) (by simp [results, Try.results12, go_sem, r0, r1, r2, r3, r4]) rfl ⟨_, by rw [HDE.out], fun W' hW' => ?_, ?_⟩
              · rw [HRX.out]
                exact I3.out W' (fun g o u hg hu => hW' g o u (by omega) ((five_off _ _ _ _ _ _ _ g o (by omega)).trans hu))
              · clear I3 FX
                go_grown
            · have HRX := hide (HRn.out h0)
              have h0' : (E == 0) = false := by rw [beq_eq_false_iff_ne]; exact h0
              clear HR0 HRn
              go_wp2_with fail
              refine bodyPost_ret (v := .tuple #[.agg #[.int .i64 0, .string ⟨#[]⟩, .slice none 0 0, .slice none 0 0, .slice none 0 0], .int .i64 E]) (by simp [results, Try.results12, go_sem, r0, r1, r2, r3, r4]) rfl ⟨_, by rw [HDE.out], fun W' hW' => ?_, ?_⟩
              · rw [HRX.out]
                exact zero_isd W'
              · clear I3 FX
                go_grown
      · have FR := hide hF
        have HDN := hide (HN0.out HP.out)
        clear hF F4 HN0 HN1 HS1 HP
        by_cases hlt : ((j : Nat) : Int) < ((n : Nat) : Int)
        · obtain ⟨r0, r1, r2, r3, r4, rlt⟩ := FR.out.r
          have g0 := FR.out.rs 0
          have g1 := FR.out.rs 1
          have g2 := FR.out.rs 2
          have g3 := FR.out.rs 3
          have g4 := FR.out.rs 4
          have t0 := FR.out.t.c0
          have t1 := FR.out.t.c1
          have hbz := FR.out.c
          go_wp2_with fail
          refine bodyPost_ret (v := .tuple #[.agg #[.int .i64 0, .string ⟨#[]⟩, .slice none 0 0, .slice none 0 0, .slice none 0 0], .int .i64 1]) (by simp [results, Try.results12, go_sem, r0, r1, r2, r3, r4]) rfl ⟨_, by rw [HDN.out.1], fun W' _ => by rw [HDN.out.2]; exact zero_isd W', ?_⟩
          clear FR
          go_grown
        · obtain ⟨r0, r1, r2, r3, r4, rlt⟩ := FR.out.r
          have g0 := FR.out.rs 0
          have g1 := FR.out.rs 1
          have g2 := FR.out.rs 2
          have g3 := FR.out.rs 3
          have g4 := FR.out.rs 4
          have t0 := FR.out.t.c0
          have t1 := FR.out.t.c1
          have hbz := FR.out.c
          go_wp2_with fail
          refine bodyPost_ret (v := .tuple #[.agg #[.int .i64 0, .string ⟨#[]⟩, .slice none 0 0, .slice none 0 0, .slice none 0 0], .int .i64 1]) (by simp [results, Try.results12, go_sem, r0, r1, r2, r3, r4]) rfl ⟨_, by rw [HDN.out.1], fun W' _ => by rw [HDN.out.2]; exact zero_isd W', ?_⟩
          clear FR
          go_grown

theorem tkN_le (o : Option (UInt8 × List UInt8)) : tkN o ≤ 255 := by
  cases o with
  | none => exact Nat.zero_le _
  | some x => have := byte_lt x.1; exact this
theorem wrap_num (N c : Nat) (h : N < 16777216) (hc : c ≤ 255) : IntKind.i64.wrap (IntKind.i64.wrap (256 * ((N : Nat) : Int)) + ((c : Nat) : Int)) = ((256 * N + c : Nat) : Int) := by
  rw [IntKind.wrap_i64, IntKind.wrap_i64]
  omega
set_option maxRecDepth 100000 in
set_option maxHeartbeats 16000000 in
theorem itemOf_5 (s : ByteArray) (c : UInt8) (l : List UInt8) (w : World) (hs : s.size ≤ 281474976710656) (hl : s = ⟨(c :: l).toArray⟩) (hc : c.toNat = 5) (HPN : Hid (whole (pEach pscore l) = none → decE s.data.toList = 1 ∧ decI s.data.toList = Itm.none)) (HPS : Hid (∀ xs, whole (pEach pscore l) = some xs → decE s.data.toList = chkI ⟨5, ⟨#[]⟩, [], [], xs⟩ ∧ (chkI ⟨5, ⟨#[]⟩, [], [], xs⟩ = 0 → decI s.data.toList = ⟨5, ⟨#[]⟩, [], [], xs⟩) ∧ (chkI ⟨5, ⟨#[]⟩, [], [], xs⟩ ≠ 0 → decI s.data.toList = Itm.none))) :
    Calls Try.prog 12 #[.string s] w fun e w' => ∃ u, e = .returned (.tuple #[u, .int .i64 (decE s.data.toList)]) ∧ (∀ W, Stays w.heap.size w' W → ItemIs W u (decI s.data.toList)) ∧ Below w.heap.size w w' := by
  obtain ⟨i0, hi, hz0, hz1, hz2⟩ := info_parts info_s
  have HO : Hid (∀ W, TakeAt (w.heap.size + 1) s false W → Calls Try.prog 33 #[.pointer (some ⟨w.heap.size + 1, 0, none⟩)] W fun e w' => e = .returned (.int .i64 5) ∧ TakeAt (w.heap.size + 1) ⟨l.toArray⟩ false w' ∧ Kept (one (w.heap.size + 1)) W w') := fun W hW => by
    have hh := takerOne_ok (w.heap.size + 1) c l W (by rw [← hl]; exact hW)
    rw [hc] at hh
    exact hh
  have HSS := hide hs
  clear hl hc hs
  cases l with
  | nil =>
    have HDN := hide (HPN.out rfl)
    clear HPN HPS
    go_enter Try.func12, Try.ntmps12
    go_wp2_with fail
    generalize hW : World.alloc _ _ = W
    have BG := hide (begin_of s w W (by rw [← hW]) HSS.out)
    clear hW
    refine (HO.out W BG.out.2.2.1).mono ?_
    rintro e w1 ⟨rfl, h1, hk1⟩
    have F0 := hide (OfAt.start (k := 5) BG.out hk1 h1)
    have hxx := F0.out.hx
    have t0 := h1.c0
    have t1 := h1.c1
    clear h1 hk1 BG
    go_wp2_with fail
    clear t0 t1
    generalize hbx : w1.heap.size = bx at *
    generalize hW2 : World.alloc w1 _ = W2 at *
    clear hW2 hbx
    obtain ⟨x0, x1, x2, x3, x4, xlt⟩ := F0.out.x
    have t0 := F0.out.t.c0
    have t1 := F0.out.t.c1
    refine (bn15 _ _ (by omega) (by omega)).mono ?_
    rintro e w3 ⟨rfl, rfl⟩
    go_wp2_with fail
    clear x0 x1 x2 x3 x4 xlt t0 t1 HO HSS
    refine (takerOne_bad (w.heap.size + 1) ⟨#[]⟩ false _ F0.out.t (.inr rfl)).mono ?_
    rintro e w4 ⟨rfl, h4, hk4⟩
    have F4 := hide (F0.out.taken hk4 h4)
    clear F0 h4 hk4
    go_wp2_with fail
    refine wp_loop_rounds 1 ?_
    rw [rounds_succ]
    obtain ⟨r0, r1, r2, r3, r4, rlt⟩ := F4.out.r
    have g0 := F4.out.rs 0
    have g1 := F4.out.rs 1
    have g2 := F4.out.rs 2
    have g3 := F4.out.rs 3
    have g4 := F4.out.rs 4
    have t0 := F4.out.t.c0
    have t1 := F4.out.t.c1
    have hbz := F4.out.c
    go_wp2_with fail
    refine bodyPost_ret (v := .tuple #[.agg #[.int .i64 0, .string ⟨#[]⟩, .slice none 0 0, .slice none 0 0, .slice none 0 0], .int .i64 1]) (by simp [results, Try.results12, go_sem, r0, r1, r2, r3, r4]) rfl ⟨_, by rw [HDN.out.1], fun W' _ => by rw [HDN.out.2]; exact zero_isd W', ?_⟩
    clear F4
    go_grown
  | cons c2 r =>
    have hcb := byte_lt c2
    go_enter Try.func12, Try.ntmps12
    go_wp2_with fail
    generalize hW : World.alloc _ _ = W
    have BG := hide (begin_of s w W (by rw [← hW]) HSS.out)
    clear hW
    refine (HO.out W BG.out.2.2.1).mono ?_
    rintro e w1 ⟨rfl, h1, hk1⟩
    have F0 := hide (OfAt.start (k := 5) BG.out hk1 h1)
    have hxx := F0.out.hx
    have t0 := h1.c0
    have t1 := h1.c1
    clear h1 hk1 BG
    go_wp2_with fail
    clear t0 t1
    generalize hbx : w1.heap.size = bx at *
    generalize hW2 : World.alloc w1 _ = W2 at *
    clear hW2 hbx
    obtain ⟨x0, x1, x2, x3, x4, xlt⟩ := F0.out.x
    have t0 := F0.out.t.c0
    have t1 := F0.out.t.c1
    refine (bn15 _ _ (by omega) (by omega)).mono ?_
    rintro e w3 ⟨rfl, rfl⟩
    go_wp2_with fail
    clear x0 x1 x2 x3 x4 xlt t0 t1 HO HSS
    refine (takerOne_ok (w.heap.size + 1) c2 r _ F0.out.t).mono ?_
    rintro e w4 ⟨rfl, h4, hk4⟩
    have F4 := hide (F0.out.taken hk4 h4)
    clear F0 h4 hk4
    have HN0 : Hid (pTo pscore r c2.toNat = none → decE s.data.toList = 1 ∧ decI s.data.toList = Itm.none) := fun h => HPN.out (by rw [pEach, h]; rfl)
    have HN1 : Hid (∀ xs c3 q3, pTo pscore r c2.toNat = some (xs, c3 :: q3) → decE s.data.toList = 1 ∧ decI s.data.toList = Itm.none) := fun xs c3 q3 h => HPN.out (by rw [pEach, h]; rfl)
    have HS1 : Hid (∀ xs, pTo pscore r c2.toNat = some (xs, []) → pEach pscore (c2 :: r) = some (xs, []) ∧ decE s.data.toList = chkI ⟨5, ⟨#[]⟩, [], [], xs⟩ ∧ (chkI ⟨5, ⟨#[]⟩, [], [], xs⟩ = 0 → decI s.data.toList = ⟨5, ⟨#[]⟩, [], [], xs⟩) ∧ (chkI ⟨5, ⟨#[]⟩, [], [], xs⟩ ≠ 0 → decI s.data.toList = Itm.none)) := fun xs h => ⟨by rw [pEach, h], HPS.out xs (by rw [pEach, h]; rfl)⟩
    clear HPN HPS
    have hn255 : c2.toNat ≤ 255 := by omega
    generalize c2.toNat = n at *
    go_wp2_with fail
    go_loopw [7] (fun i wr => ∃ (j : Nat), j ≤ n ∧ i = .int .i64 j ∧ ((∃ (xs : List (Int × ByteArray)) (q : List UInt8) (v : Value), Hid (pTo pscore r j = some (xs, q)) ∧ OfAt bx w wr ⟨q.toArray⟩ false (.int .i64 5) (.string ⟨#[]⟩) (.slice none 0 0) (.slice none 0 0) (v) ∧ wr.ownsRow (bx + 1) 61 2 v j (rowS xs)) ∨ (Hid (pTo pscore r n = none) ∧ ∃ s1 v, OfAt bx w wr s1 true (.int .i64 5) (.string ⟨#[]⟩) (.slice none 0 0) (.slice none 0 0) (v)))) (fun i _ => n - (intOf i).toNat)
    case atStart => exact ⟨0, by omega, rfl, .inl ⟨[], r, .slice none 0 0, rfl, F4.out, World.ownsRow_nil _ _ _ _⟩⟩
    case round =>
      obtain ⟨j, hj, rfl, ⟨xs, q, v, HP, hF, hown⟩ | ⟨HP, s1, v, hF⟩⟩ := hrel
      · clear F4
        have FR := hide hF
        clear hF
        obtain ⟨ao, cp, rfl⟩ := row_shape hown
        have hal := pTo_len HP.out
        have hxlt := FR.out.x.lt
        by_cases hlt : j < n
        · have hlt' : ((j : Nat) : Int) < ((n : Nat) : Int) := by omega
          have x0 := FR.out.x.c0
          have t1 := FR.out.t.c1
          have hhx := FR.out.hx
          go_wp2_with fail
          have NB : Hid (∀ k, (Value.slice ao j cp).ownBlock = some k → w.heap.size + 1 < k ∧ k < wr.heap.size) := fun k hv => ⟨by have := (hown.lt k hv).1; omega, (hown.lt k hv).2⟩
          have FA := hide (FR.out.grow (S := fun _ => False) ((Kept.refl _ _).alloc (.cells #[.int .i64 0, .string ⟨#[]⟩] 61)) (fun _ e => e.elim))
          have DA := hide (Duo.new wr (.int .i64 0) (.string ⟨#[]⟩) 61)
          have OA := hide (((Kept.refl (fun _ => False) wr).alloc (.cells #[.int .i64 0, .string ⟨#[]⟩] 61)).owns hown (fun _ _ e => e.elim))
          have hplA : wr.heap.size < (wr.alloc (.cells #[.int .i64 0, .string ⟨#[]⟩] 61)).heap.size := by simp
          clear x0 t1 FR hown
          generalize hpb : wr.heap.size = pb at *
          generalize World.alloc wr _ = WA at *
          clear hpb
          go_loopw [10] (fun i wk => ∃ (m N : Nat) (s1 : ByteArray) (bad : Bool), m ≤ 4 ∧ i = .int .i64 m ∧ N < 256 ^ m ∧ OfAt bx w wk s1 bad (.int .i64 5) (.string ⟨#[]⟩) (.slice none 0 0) (.slice none 0 0) (.slice ao j cp) ∧ Duo wk pb (.int .i64 N) (.string ⟨#[]⟩) ∧ wk.ownsRow (bx + 1) 61 2 (.slice ao j cp) j (rowS xs) ∧ pb < wk.heap.size ∧ Hid ((bad = false → m ≤ q.length ∧ N = numTo q m ∧ s1 = ⟨(q.drop m).toArray⟩) ∧ (bad = true → q.length < 4))) (fun i _ => 4 - (intOf i).toNat)
          case atStart => exact ⟨0, 0, ⟨q.toArray⟩, false, by omega, rfl, by simp, FA.out, DA.out, OA.out, hplA, ⟨fun _ => ⟨by omega, rfl, rfl⟩, fun h => by cases h⟩⟩
          case round =>
            obtain ⟨m, N, s1, bad, hm, rfl, hN, hF, hD, hO, hplk, HB⟩ := hrel
            clear FA DA OA hplA
            have FK := hide hF
            have DK := hide hD
            have OK := hide hO
            clear hF hD hO
            by_cases hm4 : m < 4
            · have hm4' : ((m : Nat) : Int) < 4 := by omega
              obtain ⟨d0, d1, f0, f1⟩ := DK.out
              have HNB : Hid (256 * N + 255 < 256 ^ (m + 1)) := by rw [Hid, Nat.pow_succ]; omega
              have HN4 : 256 ^ (m + 1) ≤ 256 ^ 4 := Nat.pow_le_pow_right (by omega) (by omega)
              have hN4 : N < 16777216 := by have := HNB.out; omega
              clear HN4
              go_wp2_with fail
              go_region_law (go_simp; refine (one_all (w.heap.size + 1) s1 bad _ (FK.out.t.kept (S := fun _ => False) ((Kept.refl _ _).drewN 1) (fun e => e))).mono ?_; rintro e w3 ⟨rfl, ⟨s3, ht3, hs3⟩, hk3⟩; have hk3a : Kept (one (w.heap.size + 1)) _ w3 := ((Kept.refl _ _).drewN 1).trans hk3; have F3 := hide (FK.out.taken hk3a ht3); have S3 := hide hs3; have D3 := hide (DK.out.kept hk3a (fun e => by simp only [one] at e; omega)); have d3 := D3.out.c0; have df3 := D3.out.f0; have O3 := hide (hk3a.owns OK.out (fun k hv e => by have := NB.out k hv; simp only [one] at e; omega)); have hpl3 := Nat.lt_of_lt_of_le hplk hk3a.size; clear hs3 ht3)
              all_goals
                have hcn := tkN_le (tkO bad s1)
                have HW : IntKind.i64.wrap (IntKind.i64.wrap (256 * ((N : Nat) : Int)) + ((tkN (tkO bad s1) : Nat) : Int)) = ((256 * N + tkN (tkO bad s1) : Nat) : Int) := wrap_num N _ hN4 hcn
                rw [HW]
                have F4 := hide (F3.out.grow (S := one pb) ((Kept.refl _ _).set1 0 (.int .i64 ((256 * N + tkN (tkO bad s1) : Nat) : Int))) (fun j e => by simp only [one] at e; omega))
                have D4 := hide (D3.out.set0 (.int .i64 ((256 * N + tkN (tkO bad s1) : Nat) : Int)))
                have O4 := hide (((Kept.refl (one pb) w3).set1 0 (.int .i64 ((256 * N + tkN (tkO bad s1) : Nat) : Int))).owns O3.out (fun k hv e => by have := NB.out k hv; simp only [one] at e; omega))
                have hpl4 : pb < (w3.setCell ⟨pb, 0, none⟩ (.int .i64 ((256 * N + tkN (tkO bad s1) : Nat) : Int))).heap.size := by simpa using hpl3
                clear F3 D3 O3 FK DK OK d0 d1 f0 f1 d3 df3 hk3 hk3a HW
                generalize World.setCell w3 _ _ = W4 at *
                go_wp2_with fail
                go_roundw
                case rel =>
                  refine ⟨m + 1, 256 * N + tkN (tkO bad s1), s3, (tkO bad s1).isNone, by omega, by go_num, by have := HNB.out; omega, F4.out, D4.out, O4.out, hpl4, ?_⟩
                  cases bad with
                  | true => exact ⟨(fun h => by cases h), fun _ => HB.out.2 rfl⟩
                  | false =>
                    obtain ⟨h1, h2, h3⟩ := HB.out.1 rfl
                    subst h3
                    have e1 : (ByteArray.mk (q.drop m).toArray).data.toList = q.drop m := by simp
                    cases hd : q.drop m with
                    | nil =>
                      have hlen : (q.drop m).length = 0 := by rw [hd]; rfl
                      rw [List.length_drop] at hlen
                      exact ⟨(fun h => by cases h), fun _ => by omega⟩
                    | cons c r2 =>
                      have hlen : (q.drop m).length = r2.length + 1 := by rw [hd]; rfl
                      rw [List.length_drop] at hlen
                      have ho : tkO false ⟨(q.drop m).toArray⟩ = some (c, r2) := by simp [tkO, hd]
                      have es := S3.out c r2 ho
                      refine ⟨fun _ => ⟨by omega, ?_, ?_⟩, fun h => by cases h⟩
                      · rw [numTo_succ hd, ← h2]
                        show 256 * N + c.toNat = N * 256 + c.toNat
                        omega
                      · rw [es]
                        have h5 : q.drop (m + 1) = r2 := by rw [← List.drop_drop, hd]; rfl
                        rw [h5]
                case measure => simp [intOf]; omega
            · have hge : ¬ ((m : Nat) : Int) < 4 := by omega
              obtain rfl : m = 4 := by omega
              obtain ⟨d0, d1, f0, f1⟩ := DK.out
              have hN4 : ((N : Nat) : Int) < 4294967296 := by have h4 : (256 : Nat) ^ 4 = 4294967296 := (by decide); omega
              go_wp2_with fail
              generalize hM : ((N : Nat) : Int) - 999999999 = M at *
              have HM := hide hM
              clear hM
              have F6 := hide (FK.out.grow (S := one pb) ((Kept.refl _ _).set1 0 (.int .i64 M)) (fun j e => by simp only [one] at e; omega))
              have D6 := hide (DK.out.set0 (.int .i64 M))
              have O6 := hide (((Kept.refl (one pb) wr).set1 0 (.int .i64 M)).owns OK.out (fun k hv e => by have := NB.out k hv; simp only [one] at e; omega))
              have hpl6 : pb < (wr.setCell ⟨pb, 0, none⟩ (.int .i64 M)).heap.size := by simpa using hplk
              clear FK DK OK d0 d1 f0 f1 hplk
              generalize World.setCell wr _ _ = W6 at *
              refine (told_all (w.heap.size + 1) s1 bad _ F6.out.t).mono ?_
              rintro e w7 ⟨rfl, ⟨s7, ht, hs⟩, hk⟩
              have F7 := hide (F6.out.taken hk ht)
              have D7 := hide (D6.out.kept hk (fun e => by simp only [one] at e; omega))
              have O7 := hide (hk.owns O6.out (fun k hv e => by have := NB.out k hv; simp only [one] at e; omega))
              have S7 := hide hs
              have hpl7 : pb < w7.heap.size := Nat.lt_of_lt_of_le hpl6 hk.size
              clear hs ht hk F6 D6 O6 hpl6
              generalize hTT : tkS (tkT bad s1) = T2 at *
              have HT7 := hide hTT
              clear hTT
              obtain ⟨d0, d1, f0, f1⟩ := D7.out
              have x4 := F7.out.x.c4
              have xf := F7.out.xs 4
              have ne7 : bx ≠ pb := by omega
              have ne8 : pb ≠ bx := by omega
              have FP := hide (F7.out.grow (S := one pb) ((Kept.refl _ _).set1 1 (.string T2)) (fun j e => by simp only [one] at e; omega))
              have OP := hide (((Kept.refl (one pb) w7).set1 1 (.string T2)).owns O7.out (fun k hv e => by have := NB.out k hv; simp only [one] at e; omega))
              clear F7 O7 D7
              have DN := hide (Duo.newS w7 (.int .i64 M) (.string T2) (⟨pb, 1, none⟩) (.string T2) 61)
              go_wp2_with (at_builtin; refine wpList_append_lies _ rfl _ _ 29 rfl (bx + 1) 61 i0 (.agg #[.int .i64 0, .string ⟨#[]⟩]) 2 24 Try.underlying29 hi hz0 hz1 hz2 rfl (by decide) (.slice ao j cp) j (rowS xs) rfl (OP.out.alloc _) ⟨w7.heap.size, 0, none⟩ 1 1 [.int .i64 M, .string T2] rfl rfl ?c1 ?c2 (by decide) ?c3 ?c4 ?c5 (w7.heap.size + 1) (by simp) ?_)
              case c1 =>
                intro j u hj
                match j, hj with
                | 0, hj => simp at hj; subst hj; simpa [Addr.add] using DN.out.c0
                | 1, hj => simp at hj; subst hj; simpa [Addr.add] using DN.out.c1
                | _ + 2, hj => simp at hj
              case c2 => intro u hu; simp at hu; rcases hu with rfl | rfl <;> rfl
              case c3 => unfold maxLen; omega
              case c4 => omega
              case c5 => simp; omega
              intro g cap w8 hown8 hgrow hat hlt8
              have F8 := hide ((FP.out.grow (S := fun j => bx < j) ((Kept.refl _ _).alloc (.cells #[.int .i64 M, .string T2] 61)) (fun _ e => e)).grow (S := fun j => bx < j) ((Kept.refl _ _).grown hgrow (fun k hk => .inl (OP.out.lt k hk).1)) (fun _ e => e))
              have hc8 := F8.out.x.c4
              have hf8 := F8.out.xs 4
              clear x4 xf d0 d1 f0 f1 ne7 ne8
              go_wp2_with fail
              have F9 := hide (F8.out.set4 (.slice (some ⟨g, 0, none⟩) (j + 1) cap))
              have O9 : Hid ((w8.setCell ⟨bx, 4, none⟩ (.slice (some ⟨g, 0, none⟩) (j + 1) cap)).ownsRow (bx + 1) 61 2 (.slice (some ⟨g, 0, none⟩) (j + 1) cap) (j + 1) (rowS (xs ++ [(M, T2)]))) := ((Kept.refl (one bx) w8).set1 4 (.slice (some ⟨g, 0, none⟩) (j + 1) cap)).owns (by simpa [rowS] using hown8) (fun k hk e => by have := (hown8.lt k hk).1; simp only [one] at e; omega)
              clear F8 FP OP hown8 hgrow hat hlt8 hc8 hf8
              generalize World.setCell w8 _ _ = W9 at *
              go_roundw
              case rel =>
                refine ⟨j + 1, by omega, by go_num, ?_⟩
                cases bad with
                | true =>
                  have hp : pNum q = none := by rw [pNum, if_neg (by have := HB.out.2 rfl; omega)]
                  exact .inr ⟨pTo_none (k := j + 1) (by rw [pTo, HP.out]; simp [pscore, hp]) n (by omega), s7, _, F9.out⟩
                | false =>
                  obtain ⟨h1, h2, h3⟩ := HB.out.1 rfl
                  subst h3
                  have eM : M = ((numTo q 4 : Nat) : Int) - 999999999 := by rw [← h2]; exact HM.out.symm
                  have hp : pNum q = some (M, q.drop 4) := by rw [pNum, if_pos h1, eM]
                  have e1 : (ByteArray.mk (q.drop 4).toArray).data.toList = q.drop 4 := by simp
                  cases ho2 : tkT false ⟨(q.drop 4).toArray⟩ with
                  | none =>
                    rw [ho2] at F9
                    have hp2 : pText (q.drop 4) = none := by rw [tkT, e1] at ho2; exact ho2
                    exact .inr ⟨pTo_none (k := j + 1) (by rw [pTo, HP.out]; simp [pscore, hp, hp2]) n (by omega), s7, _, F9.out⟩
                  | some z =>
                    obtain ⟨z1, q3⟩ := z
                    have hp2 : pText (q.drop 4) = some (z1, q3) := by rw [tkT, e1] at ho2; exact ho2
                    have es2 := S7.out z1 q3 ho2
                    subst es2
                    have eT2 : T2 = z1 := by
                      have h5 := HT7.out
                      rw [ho2] at h5
                      exact h5.symm
                    subst eT2
                    rw [ho2] at F9
                    exact .inl ⟨xs ++ [(M, T2)], q3, _, by rw [Hid, pTo, HP.out]; simp [pscore, hp, hp2], F9.out, O9.out⟩
              case measure => simp [intOf]; omega
        · have hge : ¬ ((j : Nat) : Int) < ((n : Nat) : Int) := by omega
          obtain rfl : j = n := by omega
          have OW := hide hown
          clear hown
          cases q with
          | cons c3 q3 =>
            have HDN := hide (HN1.out xs c3 q3 HP.out)
            clear HN0 HN1 HS1
            have hT : (ByteArray.mk (c3 :: q3).toArray).toList.isEmpty = false := by rw [ByteArray.toList_eq]; rfl
            generalize ByteArray.mk (c3 :: q3).toArray = T3 at *
            obtain ⟨r0, r1, r2, r3, r4, rlt⟩ := FR.out.r
            have g0 := FR.out.rs 0
            have g1 := FR.out.rs 1
            have g2 := FR.out.rs 2
            have g3 := FR.out.rs 3
            have g4 := FR.out.rs 4
            have t0 := FR.out.t.c0
            have t1 := FR.out.t.c1
            have hbz := FR.out.c
            go_wp2_with fail
            refine bodyPost_ret (v := .tuple #[.agg #[.int .i64 0, .string ⟨#[]⟩, .slice none 0 0, .slice none 0 0, .slice none 0 0], .int .i64 1]) (by simp [results, Try.results12, go_sem, r0, r1, r2, r3, r4]) rfl ⟨_, by rw [HDN.out.1], fun W' _ => by rw [HDN.out.2]; exact zero_isd W', ?_⟩
            clear FR
            go_grown
          | nil =>
            have HPE := hide (HS1.out xs HP.out).1
            have HDS := hide (HS1.out xs HP.out).2
            have hl255 : xs.length ≤ 255 := by omega
            clear HN0 HN1 HS1 HP
            obtain rfl := hal
            have hal : xs.length = xs.length := rfl
            have I9 : Hid (∀ W', Stays (bx + 1) wr W' → ItemIs W' (.agg #[.int .i64 5, .string ⟨#[]⟩, .slice none 0 0, .slice none 0 0, .slice ao xs.length cp]) ⟨5, ⟨#[]⟩, [], [], xs⟩) := fun W' ST => ⟨⟨none, 0, none, 0, ao, cp, rfl, .inl rfl, .inl rfl, scoresd_from (xs := xs) (OW.out) ST⟩, (show (0 : Nat) ≤ maxLen by simp), by simp, by simp, (fun t ht => by have := pEach_all (P := fun t : Int × ByteArray => t.2.size ≤ 255) (fun _ _ _ h => pscore_size h) HPE.out t ht; unfold maxLen; omega), by simp, by simp, (by simp only; omega)⟩
            clear OW HPE hal
            have HC := hide (refCheck_any (.agg #[.int .i64 5, .string ⟨#[]⟩, .slice none 0 0, .slice none 0 0, .slice ao xs.length cp]) (⟨5, ⟨#[]⟩, [], [], xs⟩) wr (I9.out _ (fun _ _ _ _ h => h)))
            obtain ⟨E, hE⟩ : ∃ E, E = chkI (⟨5, ⟨#[]⟩, [], [], xs⟩) := ⟨_, rfl⟩
            have HDE := hide HDS.out.1
            have HR0 := hide HDS.out.2.1
            have HRn := hide HDS.out.2.2
            rw [← hE] at HC HDE HR0 HRn
            clear hE HDS
            obtain ⟨x0, x1, x2, x3, x4, xlt⟩ := FR.out.x
            have t0 := FR.out.t.c0
            have t1 := FR.out.t.c1
            go_wp2_with fail
            refine HC.out.mono ?_
            rintro e w9 ⟨rfl, hb9⟩
            have FX := hide (FR.out.grow (S := fun _ => False) (Kept.of_below hb9 _) (fun _ e => e.elim))
            have hzb := hb9.size
            have I3 : Hid (∀ W', Stays (bx + 1) w9 W' → ItemIs W' (.agg #[.int .i64 5, .string ⟨#[]⟩, .slice none 0 0, .slice none 0 0, .slice ao xs.length cp]) (⟨5, ⟨#[]⟩, [], [], xs⟩)) := fun W' hW' => I9.out W' (fun g o u hg hu => hW' g o u hg ((hb9.cell (p := ⟨g, o, none⟩) (World.block_lt_of_cell? _ _ hu)).trans hu))
            clear x0 x1 x2 x3 x4 xlt t0 t1 HC I9 FR hb9
            obtain ⟨x0, x1, x2, x3, x4, xlt⟩ := FX.out.x
            obtain ⟨r0, r1, r2, r3, r4, rlt⟩ := FX.out.r
            have g0 := FX.out.rs 0
            have g1 := FX.out.rs 1
            have g2 := FX.out.rs 2
            have g3 := FX.out.rs 3
            have g4 := FX.out.rs 4
            have hbz := FX.out.c
            have hxx := FX.out.hx
            have ne5 : bx ≠ w.heap.size := by omega
            have ne6 : w.heap.size ≠ bx := by omega
            by_cases h0 : E = 0
            · have HRX := hide (HR0.out h0)
              clear HR0 HRn
              subst h0
              go_wp2_with fail
              refine bodyPost_ret (v := .tuple #[.agg #[.int .i64 5, .string ⟨#[]⟩, .slice none 0 0, .slice none 0 0, .slice ao xs.length cp], .int .i64 0]) (by simp [results, Try.results12, go_sem, r0, r1, r2, r3, r4]) rfl ⟨_, by rw [HDE.out], fun W' hW' => ?_, ?_⟩
              · rw [HRX.out]
                exact I3.out W' (fun g o u hg hu => hW' g o u (by omega) ((five_off _ _ _ _ _ _ _ g o (by omega)).trans hu))
              · clear I3 FX
                go_grown
            · have HRX := hide (HRn.out h0)
              have h0' : (E == 0) = false := by rw [beq_eq_false_iff_ne]; exact h0
              clear HR0 HRn
              go_wp2_with fail
              refine bodyPost_ret (v := .tuple #[.agg #[.int .i64 0, .string ⟨#[]⟩, .slice none 0 0, .slice none 0 0, .slice none 0 0], .int .i64 E]) (by simp [results, Try.results12, go_sem, r0, r1, r2, r3, r4]) rfl ⟨_, by rw [HDE.out], fun W' hW' => ?_, ?_⟩
              · rw [HRX.out]
                exact zero_isd W'
              · clear I3 FX
                go_grown
      · have FR := hide hF
        have HDN := hide (HN0.out HP.out)
        clear hF F4 HN0 HN1 HS1 HP
        by_cases hlt : ((j : Nat) : Int) < ((n : Nat) : Int)
        · obtain ⟨r0, r1, r2, r3, r4, rlt⟩ := FR.out.r
          have g0 := FR.out.rs 0
          have g1 := FR.out.rs 1
          have g2 := FR.out.rs 2
          have g3 := FR.out.rs 3
          have g4 := FR.out.rs 4
          have t0 := FR.out.t.c0
          have t1 := FR.out.t.c1
          have hbz := FR.out.c
          go_wp2_with fail
          refine bodyPost_ret (v := .tuple #[.agg #[.int .i64 0, .string ⟨#[]⟩, .slice none 0 0, .slice none 0 0, .slice none 0 0], .int .i64 1]) (by simp [results, Try.results12, go_sem, r0, r1, r2, r3, r4]) rfl ⟨_, by rw [HDN.out.1], fun W' _ => by rw [HDN.out.2]; exact zero_isd W', ?_⟩
          clear FR
          go_grown
        · obtain ⟨r0, r1, r2, r3, r4, rlt⟩ := FR.out.r
          have g0 := FR.out.rs 0
          have g1 := FR.out.rs 1
          have g2 := FR.out.rs 2
          have g3 := FR.out.rs 3
          have g4 := FR.out.rs 4
          have t0 := FR.out.t.c0
          have t1 := FR.out.t.c1
          have hbz := FR.out.c
          go_wp2_with fail
          refine bodyPost_ret (v := .tuple #[.agg #[.int .i64 0, .string ⟨#[]⟩, .slice none 0 0, .slice none 0 0, .slice none 0 0], .int .i64 1]) (by simp [results, Try.results12, go_sem, r0, r1, r2, r3, r4]) rfl ⟨_, by rw [HDN.out.1], fun W' _ => by rw [HDN.out.2]; exact zero_isd W', ?_⟩
          clear FR
          go_grown
end Go.Proofs.Ytolpmaapdkhigab
