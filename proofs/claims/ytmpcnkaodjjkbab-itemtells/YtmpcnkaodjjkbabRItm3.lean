/- WALK of the reference's item out of bytes: lists and sets. -/
import Derived.Test.YtmpcnkaodjjkbabRItm2
import Derived.BigRegion
import Derived.Deep.RegionLaw
import Derived.Deep.AppendLies
import Derived.Handy
namespace Go.Proofs.Ytmpcnkaodjjkbab
open Go.RowKit

set_option maxRecDepth 100000 in
set_option maxHeartbeats 16000000 in
theorem itemOf_2 (s : ByteArray) (c : UInt8) (l : List UInt8) (w : World) (hs : s.size ≤ 281474976710656) (hl : s = ⟨(c :: l).toArray⟩) (hc : c.toNat = 2) (HPN : Hid (whole (pEach pText l) = none → decE s.data.toList = 1 ∧ decI s.data.toList = Itm.none)) (HPS : Hid (∀ xs, whole (pEach pText l) = some xs → decE s.data.toList = chkI ⟨2, ⟨#[]⟩, xs, [], []⟩ ∧ (chkI ⟨2, ⟨#[]⟩, xs, [], []⟩ = 0 → decI s.data.toList = ⟨2, ⟨#[]⟩, xs, [], []⟩) ∧ (chkI ⟨2, ⟨#[]⟩, xs, [], []⟩ ≠ 0 → decI s.data.toList = Itm.none))) :
    Calls Try.prog 13 #[.string s] w fun e w' => ∃ u, e = .returned (.tuple #[u, .int .i64 (decE s.data.toList)]) ∧ (∀ W, Stays w.heap.size w' W → ItemIs W u (decI s.data.toList)) ∧ Below w.heap.size w w' := by
  obtain ⟨i0, hi, hz0, hz1, hz2⟩ := info_parts info_t
  have HO : Hid (∀ W, TakeAt (w.heap.size + 1) s false W → Calls Try.prog 34 #[.pointer (some ⟨w.heap.size + 1, 0, none⟩)] W fun e w' => e = .returned (.int .i64 2) ∧ TakeAt (w.heap.size + 1) ⟨l.toArray⟩ false w' ∧ Kept (one (w.heap.size + 1)) W w') := fun W hW => by
    have hh := takerOne_ok (w.heap.size + 1) c l W (by rw [← hl]; exact hW)
    rw [hc] at hh
    exact hh
  have HSS := hide hs
  clear hl hc hs
  cases l with
  | nil =>
    have HDN := hide (HPN.out rfl)
    clear HPN HPS
    go_enter Try.func13, Try.ntmps13
    go_wp2_with fail
    generalize hW : World.alloc _ _ = W
    have BG := hide (begin_of s w W (by rw [← hW]) HSS.out)
    clear hW
    refine (HO.out W BG.out.2.2.1).mono ?_
    rintro e w1 ⟨rfl, h1, hk1⟩
    have F0 := hide (OfAt.start (k := 2) BG.out hk1 h1)
    have hxx := F0.out.hx
    have t0 := h1.c0
    have t1 := h1.c1
    clear h1 hk1 BG
    go_wp2_with fail
    clear t0 t1
    generalize hbx : w1.heap.size = bx at *
    generalize hW2 : World.alloc w1 _ = W2 at *
    clear hW2 hbx
    obtain ⟨x0, x1, x2, x3, x4, xlt⟩ := F0.out.x
    have t0 := F0.out.t.c0
    have t1 := F0.out.t.c1
    refine (bn15 _ _ (by omega) (by omega)).mono ?_
    rintro e w3 ⟨rfl, rfl⟩
    go_wp2_with fail
    clear x0 x1 x2 x3 x4 xlt t0 t1 HO HSS
    refine (takerOne_bad (w.heap.size + 1) ⟨#[]⟩ false _ F0.out.t (.inr rfl)).mono ?_
    rintro e w4 ⟨rfl, h4, hk4⟩
    have F4 := hide (F0.out.taken hk4 h4)
    clear F0 h4 hk4
    go_wp2_with fail
    refine wp_loop_rounds 1 ?_
    rw [rounds_succ]
    obtain ⟨r0, r1, r2, r3, r4, rlt⟩ := F4.out.r
    have g0 := F4.out.rs 0
    have g1 := F4.out.rs 1
    have g2 := F4.out.rs 2
    have g3 := F4.out.rs 3
    have g4 := F4.out.rs 4
    have t0 := F4.out.t.c0
    have t1 := F4.out.t.c1
    have hbz := F4.out.c
    go_wp2_with fail
    refine bodyPost_ret (v := .tuple #[.agg #[.int .i64 0, .string ⟨#[]⟩, .slice none 0 0, .slice none 0 0, .slice none 0 0], .int .i64 1]) (by simp [results, Try.results13, go_sem, r0, r1, r2, r3, r4]) rfl ⟨_, by rw [HDN.out.1], fun W' _ => by rw [HDN.out.2]; exact zero_isd W', ?_⟩
    clear F4
    go_grown
  | cons c2 r =>
    have hcb := byte_lt c2
    go_enter Try.func13, Try.ntmps13
    go_wp2_with fail
    generalize hW : World.alloc _ _ = W
    have BG := hide (begin_of s w W (by rw [← hW]) HSS.out)
    clear hW
    refine (HO.out W BG.out.2.2.1).mono ?_
    rintro e w1 ⟨rfl, h1, hk1⟩
    have F0 := hide (OfAt.start (k := 2) BG.out hk1 h1)
    have hxx := F0.out.hx
    have t0 := h1.c0
    have t1 := h1.c1
    clear h1 hk1 BG
    go_wp2_with fail
    clear t0 t1
    generalize hbx : w1.heap.size = bx at *
    generalize hW2 : World.alloc w1 _ = W2 at *
    clear hW2 hbx
    obtain ⟨x0, x1, x2, x3, x4, xlt⟩ := F0.out.x
    have t0 := F0.out.t.c0
    have t1 := F0.out.t.c1
    refine (bn15 _ _ (by omega) (by omega)).mono ?_
    rintro e w3 ⟨rfl, rfl⟩
    go_wp2_with fail
    clear x0 x1 x2 x3 x4 xlt t0 t1 HO HSS
    refine (takerOne_ok (w.heap.size + 1) c2 r _ F0.out.t).mono ?_
    rintro e w4 ⟨rfl, h4, hk4⟩
    have F4 := hide (F0.out.taken hk4 h4)
    clear F0 h4 hk4
    have HN0 : Hid (pTo pText r c2.toNat = none → decE s.data.toList = 1 ∧ decI s.data.toList = Itm.none) := fun h => HPN.out (by rw [pEach, h]; rfl)
    have HN1 : Hid (∀ xs c3 q3, pTo pText r c2.toNat = some (xs, c3 :: q3) → decE s.data.toList = 1 ∧ decI s.data.toList = Itm.none) := fun xs c3 q3 h => HPN.out (by rw [pEach, h]; rfl)
    have HS1 : Hid (∀ xs, pTo pText r c2.toNat = some (xs, []) → pEach pText (c2 :: r) = some (xs, []) ∧ decE s.data.toList = chkI ⟨2, ⟨#[]⟩, xs, [], []⟩ ∧ (chkI ⟨2, ⟨#[]⟩, xs, [], []⟩ = 0 → decI s.data.toList = ⟨2, ⟨#[]⟩, xs, [], []⟩) ∧ (chkI ⟨2, ⟨#[]⟩, xs, [], []⟩ ≠ 0 → decI s.data.toList = Itm.none)) := fun xs h => ⟨by rw [pEach, h], HPS.out xs (by rw [pEach, h]; rfl)⟩
    clear HPN HPS
    have hn255 : c2.toNat ≤ 255 := by omega
    generalize c2.toNat = n at *
    go_wp2_with fail
    go_loopw [7] (fun i wr => ∃ (j : Nat), j ≤ n ∧ i = .int .i64 j ∧ ((∃ (xs : List (ByteArray)) (q : List UInt8) (v : Value), Hid (pTo pText r j = some (xs, q)) ∧ OfAt bx w wr ⟨q.toArray⟩ false (.int .i64 2) (.string ⟨#[]⟩) (v) (.slice none 0 0) (.slice none 0 0) ∧ wr.ownsRow (bx + 1) 9 1 v j (rowT xs)) ∨ (Hid (pTo pText r n = none) ∧ ∃ s1 v, OfAt bx w wr s1 true (.int .i64 2) (.string ⟨#[]⟩) (v) (.slice none 0 0) (.slice none 0 0)))) (fun i _ => n - (intOf i).toNat)
    case atStart => exact ⟨0, by omega, rfl, .inl ⟨[], r, .slice none 0 0, rfl, F4.out, World.ownsRow_nil _ _ _ _⟩⟩
    case round =>
      obtain ⟨j, hj, rfl, ⟨xs, q, v, HP, hF, hown⟩ | ⟨HP, s1, v, hF⟩⟩ := hrel
      · clear F4
        have FR := hide hF
        clear hF
        obtain ⟨ao, cp, rfl⟩ := row_shape hown
        have hal := pTo_len HP.out
        have hxlt := FR.out.x.lt
        by_cases hlt : j < n
        · have hlt' : ((j : Nat) : Int) < ((n : Nat) : Int) := by omega
          have x0 := FR.out.x.c0
          have c3 := FR.out.x.c2
          have f3 := FR.out.xs 2
          have t1 := FR.out.t.c1
          have hhx := FR.out.hx
          go_wp2_with fail
          go_region_law (first
            | (refine step_append_lies _ (by rfl) _ _ 28 (by rfl) (bx + 1) 9 i0 (.string ⟨#[]⟩) 1 16 Try.underlying28 hi hz0 hz1 hz2 rfl (by omega) (.slice ao j cp) j (rowT xs) (by rfl) (hown3.alloc _) ⟨w3.heap.size, 0, none⟩ 1 1 [.string (tkS (tkT false ⟨q.toArray⟩))] (by rfl) (by rfl) (fun j u hj => by match j, hj with | 0, hj => (simp at hj; subst hj; simp [Addr.add])) (fun u hu => by simp at hu; subst hu; rfl) (by omega) (by unfold maxLen; omega) (by omega) (by simp; omega) (w3.heap.size + 1) (by simp) ?_; intro g cap w4 hown4 hgrow hat hlt4; have F4 := hide ((F3.out.grow (S := fun j => bx < j) ((Kept.refl _ _).alloc (.cells #[.string (tkS (tkT false ⟨q.toArray⟩))] 9)) (fun _ e => e)).grow (S := fun j => bx < j) ((Kept.refl _ _).grown hgrow (fun k hk => .inl (hown3.lt k hk).1)) (fun _ e => e)); have hc4 := F4.out.x.c2; have hf4 := F4.out.xs 2)
            | (go_simp; refine (told_all (w.heap.size + 1) ⟨q.toArray⟩ false _ (FR.out.t.kept (S := fun _ => False) ((Kept.refl _ _).drewN 1) (fun e => e))).mono ?_; rintro e w3 ⟨rfl, ⟨s3, ht3, hs3⟩, hk3⟩; have hk3a : Kept (one (w.heap.size + 1)) wr w3 := ((Kept.refl _ _).drewN 1).trans hk3; have F3 := hide (FR.out.taken hk3a ht3); have S3 := hide hs3; have hc3 := F3.out.x.c2; have hc3a : ∀ o, (w3.alloc o).cell? ⟨bx, 2, none⟩ = some (.slice ao j cp) := fun o => ((Kept.refl (fun _ => False) w3).alloc o).cell' hc3 (fun e => e); have hown3 := hk3a.owns hown (fun k hv hs => by have := (hown.lt k hv).1; simp only [one] at hs; omega); have hsz3 : wr.heap.size ≤ w3.heap.size := hk3a.size; clear hs3 ht3))
          all_goals
            have F5 := hide (F4.out.set2 (.slice (some ⟨g, 0, none⟩) (j + 1) cap))
            have O5 : Hid ((w4.setCell ⟨bx, 2, none⟩ (.slice (some ⟨g, 0, none⟩) (j + 1) cap)).ownsRow (bx + 1) 9 1 (.slice (some ⟨g, 0, none⟩) (j + 1) cap) (j + 1) (rowT (xs ++ [tkS (tkT false ⟨q.toArray⟩)]))) := ((Kept.refl (one bx) w4).set1 2 (.slice (some ⟨g, 0, none⟩) (j + 1) cap)).owns (by simpa [rowT] using hown4) (fun k hk e => by have := (hown4.lt k hk).1; simp only [one] at e; omega)
            clear x0 c3 f3 t1 F4 F3 FR hown hown3 hown4 hgrow hat hlt4 hc4 hf4 hc3 hc3a hk3 hk3a
            generalize World.setCell w4 _ _ = W5 at *
            go_wp2_with fail
            go_roundw
            case rel =>
              refine ⟨j + 1, by omega, by go_num, ?_⟩
              have e1 : (ByteArray.mk q.toArray).data.toList = q := by simp
              cases ho : tkT false ⟨q.toArray⟩ with
              | none =>
                rw [ho] at F5
                have hp : pText q = none := by rw [tkT, e1] at ho; exact ho
                exact .inr ⟨pTo_none (k := j + 1) (by rw [pTo, HP.out]; simp [hp]) n (by omega), s3, _, F5.out⟩
              | some y =>
                obtain ⟨y1, q2⟩ := y
                rw [ho] at F5 O5
                have hp : pText q = some (y1, q2) := by rw [tkT, e1] at ho; exact ho
                have es := S3.out y1 q2 ho
                subst es
                exact .inl ⟨xs ++ [y1], q2, _, by rw [Hid, pTo, HP.out]; simp [hp], F5.out, O5.out⟩
            case measure => simp [intOf]; omega
        · have hge : ¬ ((j : Nat) : Int) < ((n : Nat) : Int) := by omega
          obtain rfl : j = n := by omega
          have OW := hide hown
          clear hown
          cases q with
          | cons c3 q3 =>
            have HDN := hide (HN1.out xs c3 q3 HP.out)
            clear HN0 HN1 HS1
            have hT : (ByteArray.mk (c3 :: q3).toArray).toList.isEmpty = false := by rw [ByteArray.toList_eq]; rfl
            generalize ByteArray.mk (c3 :: q3).toArray = T3 at *
            obtain ⟨r0, r1, r2, r3, r4, rlt⟩ := FR.out.r
            have g0 := FR.out.rs 0
            have g1 := FR.out.rs 1
            have g2 := FR.out.rs 2
            have g3 := FR.out.rs 3
            have g4 := FR.out.rs 4
            have t0 := FR.out.t.c0
            have t1 := FR.out.t.c1
            have hbz := FR.out.c
            go_wp2_with fail
            refine bodyPost_ret (v := .tuple #[.agg #[.int .i64 0, .string ⟨#[]⟩, .slice none 0 0, .slice none 0 0, .slice none 0 0], .int .i64 1]) (by simp [results, Try.results13, go_sem, r0, r1, r2, r3, r4]) rfl ⟨_, by rw [HDN.out.1], fun W' _ => by rw [HDN.out.2]; exact zero_isd W', ?_⟩
            clear FR
            go_grown
          | nil =>
            have HPE := hide (HS1.out xs HP.out).1
            have HDS := hide (HS1.out xs HP.out).2
            have hl255 : xs.length ≤ 255 := by omega
            clear HN0 HN1 HS1 HP
            obtain rfl := hal
            have hal : xs.length = xs.length := rfl
            have I9 : Hid (∀ W', Stays (bx + 1) wr W' → ItemIs W' (.agg #[.int .i64 2, .string ⟨#[]⟩, .slice ao xs.length cp, .slice none 0 0, .slice none 0 0]) ⟨2, ⟨#[]⟩, xs, [], []⟩) := fun W' ST => ⟨⟨ao, cp, none, 0, none, 0, rfl, textsd_from (xs := xs) (OW.out) ST, .inl rfl, .inl rfl⟩, (show (0 : Nat) ≤ maxLen by simp), (fun t ht => Nat.le_trans (pEach_all (P := fun t => t.size ≤ 255) (fun _ _ _ h => pText_size h) HPE.out t ht) (by unfold maxLen; omega)), by simp, by simp, (by simp only; omega), by simp, by simp⟩
            clear OW HPE hal
            have HC := hide (refCheck_any (.agg #[.int .i64 2, .string ⟨#[]⟩, .slice ao xs.length cp, .slice none 0 0, .slice none 0 0]) (⟨2, ⟨#[]⟩, xs, [], []⟩) wr (I9.out _ (fun _ _ _ _ h => h)))
            obtain ⟨E, hE⟩ : ∃ E, E = chkI (⟨2, ⟨#[]⟩, xs, [], []⟩) := ⟨_, rfl⟩
            have HDE := hide HDS.out.1
            have HR0 := hide HDS.out.2.1
            have HRn := hide HDS.out.2.2
            rw [← hE] at HC HDE HR0 HRn
            clear hE HDS
            obtain ⟨x0, x1, x2, x3, x4, xlt⟩ := FR.out.x
            have t0 := FR.out.t.c0
            have t1 := FR.out.t.c1
            go_wp2_with fail
            refine HC.out.mono ?_
            rintro e w9 ⟨rfl, hb9⟩
            have FX := hide (FR.out.grow (S := fun _ => False) (Kept.of_below hb9 _) (fun _ e => e.elim))
            have hzb := hb9.size
            have I3 : Hid (∀ W', Stays (bx + 1) w9 W' → ItemIs W' (.agg #[.int .i64 2, .string ⟨#[]⟩, .slice ao xs.length cp, .slice none 0 0, .slice none 0 0]) (⟨2, ⟨#[]⟩, xs, [], []⟩)) := fun W' hW' => I9.out W' (fun g o u hg hu => hW' g o u hg ((hb9.cell (p := ⟨g, o, none⟩) (World.block_lt_of_cell? _ _ hu)).trans hu))
            clear x0 x1 x2 x3 x4 xlt t0 t1 HC I9 FR hb9
            obtain ⟨x0, x1, x2, x3, x4, xlt⟩ := FX.out.x
            obtain ⟨r0, r1, r2, r3, r4, rlt⟩ := FX.out.r
            have g0 := FX.out.rs 0
            have g1 := FX.out.rs 1
            have g2 := FX.out.rs 2
            have g3 := FX.out.rs 3
            have g4 := FX.out.rs 4
            have hbz := FX.out.c
            have hxx := FX.out.hx
            have ne5 : bx ≠ w.heap.size := by omega
            have ne6 : w.heap.size ≠ bx := by omega
            by_cases h0 : E = 0
            · have HRX := hide (HR0.out h0)
              clear HR0 HRn
              subst h0
              go_wp2_with fail
              refine bodyPost_ret (v := .tuple #[.agg #[.int .i64 2, .string ⟨#[]⟩, .slice ao xs.length cp, .slice none 0 0, .slice none 0 0], .int .i64 0]) (by simp [results, Try.results13, go_sem, r0, r1, r2, r3, r4]) rfl ⟨_, by rw [HDE.out], fun W' hW' => ?_, ?_⟩
              · rw [HRX.out]
                exact I3.out W' (fun g o u hg hu => hW' g o u (by omega) ((five_off _ _ _ _ _ _ _ g o (by omega)).trans hu))
              · clear I3 FX
                go_grown
            · have HRX := hide (HRn.out h0)
              have h0' : (E == 0) = false := by rw [beq_eq_false_iff_ne]; exact h0
              clear HR0 HRn
              go_wp2_with fail
              refine bodyPost_ret (v := .tuple #[.agg #[.int .i64 0, .string ⟨#[]⟩, .slice none 0 0, .slice none 0 0, .slice none 0 0], .int .i64 E]) (by simp [results, Try.results13, go_sem, r0, r1, r2, r3, r4]) rfl ⟨_, by rw [HDE.out], fun W' hW' => ?_, ?_⟩
              · rw [HRX.out]
                exact zero_isd W'
              · clear I3 FX
                go_grown
      · have FR := hide hF
        have HDN := hide (HN0.out HP.out)
        clear hF F4 HN0 HN1 HS1 HP
        by_cases hlt : ((j : Nat) : Int) < ((n : Nat) : Int)
        · obtain ⟨r0, r1, r2, r3, r4, rlt⟩ := FR.out.r
          have g0 := FR.out.rs 0
          have g1 := FR.out.rs 1
          have g2 := FR.out.rs 2
          have g3 := FR.out.rs 3
          have g4 := FR.out.rs 4
          have t0 := FR.out.t.c0
          have t1 := FR.out.t.c1
          have hbz := FR.out.c
          go_wp2_with fail
          refine bodyPost_ret (v := .tuple #[.agg #[.int .i64 0, .string ⟨#[]⟩, .slice none 0 0, .slice none 0 0, .slice none 0 0], .int .i64 1]) (by simp [results, Try.results13, go_sem, r0, r1, r2, r3, r4]) rfl ⟨_, by rw [HDN.out.1], fun W' _ => by rw [HDN.out.2]; exact zero_isd W', ?_⟩
          clear FR
          go_grown
        · obtain ⟨r0, r1, r2, r3, r4, rlt⟩ := FR.out.r
          have g0 := FR.out.rs 0
          have g1 := FR.out.rs 1
          have g2 := FR.out.rs 2
          have g3 := FR.out.rs 3
          have g4 := FR.out.rs 4
          have t0 := FR.out.t.c0
          have t1 := FR.out.t.c1
          have hbz := FR.out.c
          go_wp2_with fail
          refine bodyPost_ret (v := .tuple #[.agg #[.int .i64 0, .string ⟨#[]⟩, .slice none 0 0, .slice none 0 0, .slice none 0 0], .int .i64 1]) (by simp [results, Try.results13, go_sem, r0, r1, r2, r3, r4]) rfl ⟨_, by rw [HDN.out.1], fun W' _ => by rw [HDN.out.2]; exact zero_isd W', ?_⟩
          clear FR
          go_grown
set_option maxRecDepth 100000 in
set_option maxHeartbeats 16000000 in
theorem itemOf_3 (s : ByteArray) (c : UInt8) (l : List UInt8) (w : World) (hs : s.size ≤ 281474976710656) (hl : s = ⟨(c :: l).toArray⟩) (hc : c.toNat = 3) (HPN : Hid (whole (pEach pText l) = none → decE s.data.toList = 1 ∧ decI s.data.toList = Itm.none)) (HPS : Hid (∀ xs, whole (pEach pText l) = some xs → decE s.data.toList = chkI ⟨3, ⟨#[]⟩, xs, [], []⟩ ∧ (chkI ⟨3, ⟨#[]⟩, xs, [], []⟩ = 0 → decI s.data.toList = ⟨3, ⟨#[]⟩, xs, [], []⟩) ∧ (chkI ⟨3, ⟨#[]⟩, xs, [], []⟩ ≠ 0 → decI s.data.toList = Itm.none))) :
    Calls Try.prog 13 #[.string s] w fun e w' => ∃ u, e = .returned (.tuple #[u, .int .i64 (decE s.data.toList)]) ∧ (∀ W, Stays w.heap.size w' W → ItemIs W u (decI s.data.toList)) ∧ Below w.heap.size w w' := by
  obtain ⟨i0, hi, hz0, hz1, hz2⟩ := info_parts info_t
  have HO : Hid (∀ W, TakeAt (w.heap.size + 1) s false W → Calls Try.prog 34 #[.pointer (some ⟨w.heap.size + 1, 0, none⟩)] W fun e w' => e = .returned (.int .i64 3) ∧ TakeAt (w.heap.size + 1) ⟨l.toArray⟩ false w' ∧ Kept (one (w.heap.size + 1)) W w') := fun W hW => by
    have hh := takerOne_ok (w.heap.size + 1) c l W (by rw [← hl]; exact hW)
    rw [hc] at hh
    exact hh
  have HSS := hide hs
  clear hl hc hs
  cases l with
  | nil =>
    have HDN := hide (HPN.out rfl)
    clear HPN HPS
    go_enter Try.func13, Try.ntmps13
    go_wp2_with fail
    generalize hW : World.alloc _ _ = W
    have BG := hide (begin_of s w W (by rw [← hW]) HSS.out)
    clear hW
    refine (HO.out W BG.out.2.2.1).mono ?_
    rintro e w1 ⟨rfl, h1, hk1⟩
    have F0 := hide (OfAt.start (k := 3) BG.out hk1 h1)
    have hxx := F0.out.hx
    have t0 := h1.c0
    have t1 := h1.c1
    clear h1 hk1 BG
    go_wp2_with fail
    clear t0 t1
    generalize hbx : w1.heap.size = bx at *
    generalize hW2 : World.alloc w1 _ = W2 at *
    clear hW2 hbx
    obtain ⟨x0, x1, x2, x3, x4, xlt⟩ := F0.out.x
    have t0 := F0.out.t.c0
    have t1 := F0.out.t.c1
    refine (bn15 _ _ (by omega) (by omega)).mono ?_
    rintro e w3 ⟨rfl, rfl⟩
    go_wp2_with fail
    clear x0 x1 x2 x3 x4 xlt t0 t1 HO HSS
    refine (takerOne_bad (w.heap.size + 1) ⟨#[]⟩ false _ F0.out.t (.inr rfl)).mono ?_
    rintro e w4 ⟨rfl, h4, hk4⟩
    have F4 := hide (F0.out.taken hk4 h4)
    clear F0 h4 hk4
    go_wp2_with fail
    refine wp_loop_rounds 1 ?_
    rw [rounds_succ]
    obtain ⟨r0, r1, r2, r3, r4, rlt⟩ := F4.out.r
    have g0 := F4.out.rs 0
    have g1 := F4.out.rs 1
    have g2 := F4.out.rs 2
    have g3 := F4.out.rs 3
    have g4 := F4.out.rs 4
    have t0 := F4.out.t.c0
    have t1 := F4.out.t.c1
    have hbz := F4.out.c
    go_wp2_with fail
    refine bodyPost_ret (v := .tuple #[.agg #[.int .i64 0, .string ⟨#[]⟩, .slice none 0 0, .slice none 0 0, .slice none 0 0], .int .i64 1]) (by simp [results, Try.results13, go_sem, r0, r1, r2, r3, r4]) rfl ⟨_, by rw [HDN.out.1], fun W' _ => by rw [HDN.out.2]; exact zero_isd W', ?_⟩
    clear F4
    go_grown
  | cons c2 r =>
    have hcb := byte_lt c2
    go_enter Try.func13, Try.ntmps13
    go_wp2_with fail
    generalize hW : World.alloc _ _ = W
    have BG := hide (begin_of s w W (by rw [← hW]) HSS.out)
    clear hW
    refine (HO.out W BG.out.2.2.1).mono ?_
    rintro e w1 ⟨rfl, h1, hk1⟩
    have F0 := hide (OfAt.start (k := 3) BG.out hk1 h1)
    have hxx := F0.out.hx
    have t0 := h1.c0
    have t1 := h1.c1
    clear h1 hk1 BG
    go_wp2_with fail
    clear t0 t1
    generalize hbx : w1.heap.size = bx at *
    generalize hW2 : World.alloc w1 _ = W2 at *
    clear hW2 hbx
    obtain ⟨x0, x1, x2, x3, x4, xlt⟩ := F0.out.x
    have t0 := F0.out.t.c0
    have t1 := F0.out.t.c1
    refine (bn15 _ _ (by omega) (by omega)).mono ?_
    rintro e w3 ⟨rfl, rfl⟩
    go_wp2_with fail
    clear x0 x1 x2 x3 x4 xlt t0 t1 HO HSS
    refine (takerOne_ok (w.heap.size + 1) c2 r _ F0.out.t).mono ?_
    rintro e w4 ⟨rfl, h4, hk4⟩
    have F4 := hide (F0.out.taken hk4 h4)
    clear F0 h4 hk4
    have HN0 : Hid (pTo pText r c2.toNat = none → decE s.data.toList = 1 ∧ decI s.data.toList = Itm.none) := fun h => HPN.out (by rw [pEach, h]; rfl)
    have HN1 : Hid (∀ xs c3 q3, pTo pText r c2.toNat = some (xs, c3 :: q3) → decE s.data.toList = 1 ∧ decI s.data.toList = Itm.none) := fun xs c3 q3 h => HPN.out (by rw [pEach, h]; rfl)
    have HS1 : Hid (∀ xs, pTo pText r c2.toNat = some (xs, []) → pEach pText (c2 :: r) = some (xs, []) ∧ decE s.data.toList = chkI ⟨3, ⟨#[]⟩, xs, [], []⟩ ∧ (chkI ⟨3, ⟨#[]⟩, xs, [], []⟩ = 0 → decI s.data.toList = ⟨3, ⟨#[]⟩, xs, [], []⟩) ∧ (chkI ⟨3, ⟨#[]⟩, xs, [], []⟩ ≠ 0 → decI s.data.toList = Itm.none)) := fun xs h => ⟨by rw [pEach, h], HPS.out xs (by rw [pEach, h]; rfl)⟩
    clear HPN HPS
    have hn255 : c2.toNat ≤ 255 := by omega
    generalize c2.toNat = n at *
    go_wp2_with fail
    go_loopw [7] (fun i wr => ∃ (j : Nat), j ≤ n ∧ i = .int .i64 j ∧ ((∃ (xs : List (ByteArray)) (q : List UInt8) (v : Value), Hid (pTo pText r j = some (xs, q)) ∧ OfAt bx w wr ⟨q.toArray⟩ false (.int .i64 3) (.string ⟨#[]⟩) (v) (.slice none 0 0) (.slice none 0 0) ∧ wr.ownsRow (bx + 1) 9 1 v j (rowT xs)) ∨ (Hid (pTo pText r n = none) ∧ ∃ s1 v, OfAt bx w wr s1 true (.int .i64 3) (.string ⟨#[]⟩) (v) (.slice none 0 0) (.slice none 0 0)))) (fun i _ => n - (intOf i).toNat)
    case atStart => exact ⟨0, by omega, rfl, .inl ⟨[], r, .slice none 0 0, rfl, F4.out, World.ownsRow_nil _ _ _ _⟩⟩
    case round =>
      obtain ⟨j, hj, rfl, ⟨xs, q, v, HP, hF, hown⟩ | ⟨HP, s1, v, hF⟩⟩ := hrel
      · clear F4
        have FR := hide hF
        clear hF
        obtain ⟨ao, cp, rfl⟩ := row_shape hown
        have hal := pTo_len HP.out
        have hxlt := FR.out.x.lt
        by_cases hlt : j < n
        · have hlt' : ((j : Nat) : Int) < ((n : Nat) : Int) := by omega
          have x0 := FR.out.x.c0
          have c3 := FR.out.x.c2
          have f3 := FR.out.xs 2
          have t1 := FR.out.t.c1
          have hhx := FR.out.hx
          go_wp2_with fail
          go_region_law (first
            | (refine step_append_lies _ (by rfl) _ _ 28 (by rfl) (bx + 1) 9 i0 (.string ⟨#[]⟩) 1 16 Try.underlying28 hi hz0 hz1 hz2 rfl (by omega) (.slice ao j cp) j (rowT xs) (by rfl) (hown3.alloc _) ⟨w3.heap.size, 0, none⟩ 1 1 [.string (tkS (tkT false ⟨q.toArray⟩))] (by rfl) (by rfl) (fun j u hj => by match j, hj with | 0, hj => (simp at hj; subst hj; simp [Addr.add])) (fun u hu => by simp at hu; subst hu; rfl) (by omega) (by unfold maxLen; omega) (by omega) (by simp; omega) (w3.heap.size + 1) (by simp) ?_; intro g cap w4 hown4 hgrow hat hlt4; have F4 := hide ((F3.out.grow (S := fun j => bx < j) ((Kept.refl _ _).alloc (.cells #[.string (tkS (tkT false ⟨q.toArray⟩))] 9)) (fun _ e => e)).grow (S := fun j => bx < j) ((Kept.refl _ _).grown hgrow (fun k hk => .inl (hown3.lt k hk).1)) (fun _ e => e)); have hc4 := F4.out.x.c2; have hf4 := F4.out.xs 2)
            | (go_simp; refine (told_all (w.heap.size + 1) ⟨q.toArray⟩ false _ (FR.out.t.kept (S := fun _ => False) ((Kept.refl _ _).drewN 1) (fun e => e))).mono ?_; rintro e w3 ⟨rfl, ⟨s3, ht3, hs3⟩, hk3⟩; have hk3a : Kept (one (w.heap.size + 1)) wr w3 := ((Kept.refl _ _).drewN 1).trans hk3; have F3 := hide (FR.out.taken hk3a ht3); have S3 := hide hs3; have hc3 := F3.out.x.c2; have hc3a : ∀ o, (w3.alloc o).cell? ⟨bx, 2, none⟩ = some (.slice ao j cp) := fun o => ((Kept.refl (fun _ => False) w3).alloc o).cell' hc3 (fun e => e); have hown3 := hk3a.owns hown (fun k hv hs => by have := (hown.lt k hv).1; simp only [one] at hs; omega); have hsz3 : wr.heap.size ≤ w3.heap.size := hk3a.size; clear hs3 ht3))
          all_goals
            have F5 := hide (F4.out.set2 (.slice (some ⟨g, 0, none⟩) (j + 1) cap))
            have O5 : Hid ((w4.setCell ⟨bx, 2, none⟩ (.slice (some ⟨g, 0, none⟩) (j + 1) cap)).ownsRow (bx + 1) 9 1 (.slice (some ⟨g, 0, none⟩) (j + 1) cap) (j + 1) (rowT (xs ++ [tkS (tkT false ⟨q.toArray⟩)]))) := ((Kept.refl (one bx) w4).set1 2 (.slice (some ⟨g, 0, none⟩) (j + 1) cap)).owns (by simpa [rowT] using hown4) (fun k hk e => by have := (hown4.lt k hk).1; simp only [one] at e; omega)
            clear x0 c3 f3 t1 F4 F3 FR hown hown3 hown4 hgrow hat hlt4 hc4 hf4 hc3 hc3a hk3 hk3a
            generalize World.setCell w4 _ _ = W5 at *
            go_wp2_with fail
            go_roundw
            case rel =>
              refine ⟨j + 1, by omega, by go_num, ?_⟩
              have e1 : (ByteArray.mk q.toArray).data.toList = q := by simp
              cases ho : tkT false ⟨q.toArray⟩ with
              | none =>
                rw [ho] at F5
                have hp : pText q = none := by rw [tkT, e1] at ho; exact ho
                exact .inr ⟨pTo_none (k := j + 1) (by rw [pTo, HP.out]; simp [hp]) n (by omega), s3, _, F5.out⟩
              | some y =>
                obtain ⟨y1, q2⟩ := y
                rw [ho] at F5 O5
                have hp : pText q = some (y1, q2) := by rw [tkT, e1] at ho; exact ho
                have es := S3.out y1 q2 ho
                subst es
                exact .inl ⟨xs ++ [y1], q2, _, by rw [Hid, pTo, HP.out]; simp [hp], F5.out, O5.out⟩
            case measure => simp [intOf]; omega
        · have hge : ¬ ((j : Nat) : Int) < ((n : Nat) : Int) := by omega
          obtain rfl : j = n := by omega
          have OW := hide hown
          clear hown
          cases q with
          | cons c3 q3 =>
            have HDN := hide (HN1.out xs c3 q3 HP.out)
            clear HN0 HN1 HS1
            have hT : (ByteArray.mk (c3 :: q3).toArray).toList.isEmpty = false := by rw [ByteArray.toList_eq]; rfl
            generalize ByteArray.mk (c3 :: q3).toArray = T3 at *
            obtain ⟨r0, r1, r2, r3, r4, rlt⟩ := FR.out.r
            have g0 := FR.out.rs 0
            have g1 := FR.out.rs 1
            have g2 := FR.out.rs 2
            have g3 := FR.out.rs 3
            have g4 := FR.out.rs 4
            have t0 := FR.out.t.c0
            have t1 := FR.out.t.c1
            have hbz := FR.out.c
            go_wp2_with fail
            refine bodyPost_ret (v := .tuple #[.agg #[.int .i64 0, .string ⟨#[]⟩, .slice none 0 0, .slice none 0 0, .slice none 0 0], .int .i64 1]) (by simp [results, Try.results13, go_sem, r0, r1, r2, r3, r4]) rfl ⟨_, by rw [HDN.out.1], fun W' _ => by rw [HDN.out.2]; exact zero_isd W', ?_⟩
            clear FR
            go_grown
          | nil =>
            have HPE := hide (HS1.out xs HP.out).1
            have HDS := hide (HS1.out xs HP.out).2
            have hl255 : xs.length ≤ 255 := by omega
            clear HN0 HN1 HS1 HP
            obtain rfl := hal
            have hal : xs.length = xs.length := rfl
            have I9 : Hid (∀ W', Stays (bx + 1) wr W' → ItemIs W' (.agg #[.int .i64 3, .string ⟨#[]⟩, .slice ao xs.length cp, .slice none 0 0, .slice none 0 0]) ⟨3, ⟨#[]⟩, xs, [], []⟩) := fun W' ST => ⟨⟨ao, cp, none, 0, none, 0, rfl, textsd_from (xs := xs) (OW.out) ST, .inl rfl, .inl rfl⟩, (show (0 : Nat) ≤ maxLen by simp), (fun t ht => Nat.le_trans (pEach_all (P := fun t => t.size ≤ 255) (fun _ _ _ h => pText_size h) HPE.out t ht) (by unfold maxLen; omega)), by simp, by simp, (by simp only; omega), by simp, by simp⟩
            clear OW HPE hal
            have HC := hide (refCheck_any (.agg #[.int .i64 3, .string ⟨#[]⟩, .slice ao xs.length cp, .slice none 0 0, .slice none 0 0]) (⟨3, ⟨#[]⟩, xs, [], []⟩) wr (I9.out _ (fun _ _ _ _ h => h)))
            obtain ⟨E, hE⟩ : ∃ E, E = chkI (⟨3, ⟨#[]⟩, xs, [], []⟩) := ⟨_, rfl⟩
            have HDE := hide HDS.out.1
            have HR0 := hide HDS.out.2.1
            have HRn := hide HDS.out.2.2
            rw [← hE] at HC HDE HR0 HRn
            clear hE HDS
            obtain ⟨x0, x1, x2, x3, x4, xlt⟩ := FR.out.x
            have t0 := FR.out.t.c0
            have t1 := FR.out.t.c1
            go_wp2_with fail
            refine HC.out.mono ?_
            rintro e w9 ⟨rfl, hb9⟩
            have FX := hide (FR.out.grow (S := fun _ => False) (Kept.of_below hb9 _) (fun _ e => e.elim))
            have hzb := hb9.size
            have I3 : Hid (∀ W', Stays (bx + 1) w9 W' → ItemIs W' (.agg #[.int .i64 3, .string ⟨#[]⟩, .slice ao xs.length cp, .slice none 0 0, .slice none 0 0]) (⟨3, ⟨#[]⟩, xs, [], []⟩)) := fun W' hW' => I9.out W' (fun g o u hg hu => hW' g o u hg ((hb9.cell (p := ⟨g, o, none⟩) (World.block_lt_of_cell? _ _ hu)).trans hu))
            clear x0 x1 x2 x3 x4 xlt t0 t1 HC I9 FR hb9
            obtain ⟨x0, x1, x2, x3, x4, xlt⟩ := FX.out.x
            obtain ⟨r0, r1, r2, r3, r4, rlt⟩ := FX.out.r
            have g0 := FX.out.rs 0
            have g1 := FX.out.rs 1
            have g2 := FX.out.rs 2
            have g3 := FX.out.rs 3
            have g4 := FX.out.rs 4
            have hbz := FX.out.c
            have hxx := FX.out.hx
            have ne5 : bx ≠ w.heap.size := by omega
            have ne6 : w.heap.size ≠ bx := by omega
            by_cases h0 : E = 0
            · have HRX := hide (HR0.out h0)
              clear HR0 HRn
              subst h0
              go_wp2_with fail
              refine bodyPost_ret (v := .tuple #[.agg #[.int .i64 3, .string ⟨#[]⟩, .slice ao xs.length cp, .slice none 0 0, .slice none 0 0], .int .i64 0]) (by simp [results, Try.results13, go_sem, r0, r1, r2, r3, r4]) rfl ⟨_, by rw [HDE.out], fun W' hW' => ?_, ?_⟩
              · rw [HRX.out]
                exact I3.out W' (fun g o u hg hu => hW' g o u (by omega) ((five_off _ _ _ _ _ _ _ g o (by omega)).trans hu))
              · clear I3 FX
                go_grown
            · have HRX := hide (HRn.out h0)
              have h0' : (E == 0) = false := by rw [beq_eq_false_iff_ne]; exact h0
              clear HR0 HRn
              go_wp2_with fail
              refine bodyPost_ret (v := .tuple #[.agg #[.int .i64 0, .string ⟨#[]⟩, .slice none 0 0, .slice none 0 0, .slice none 0 0], .int .i64 E]) (by simp [results, Try.results13, go_sem, r0, r1, r2, r3, r4]) rfl ⟨_, by rw [HDE.out], fun W' hW' => ?_, ?_⟩
              · rw [HRX.out]
                exact zero_isd W'
              · clear I3 FX
                go_grown
      · have FR := hide hF
        have HDN := hide (HN0.out HP.out)
        clear hF F4 HN0 HN1 HS1 HP
        by_cases hlt : ((j : Nat) : Int) < ((n : Nat) : Int)
        · obtain ⟨r0, r1, r2, r3, r4, rlt⟩ := FR.out.r
          have g0 := FR.out.rs 0
          have g1 := FR.out.rs 1
          have g2 := FR.out.rs 2
          have g3 := FR.out.rs 3
          have g4 := FR.out.rs 4
          have t0 := FR.out.t.c0
          have t1 := FR.out.t.c1
          have hbz := FR.out.c
          go_wp2_with fail
          refine bodyPost_ret (v := .tuple #[.agg #[.int .i64 0, .string ⟨#[]⟩, .slice none 0 0, .slice none 0 0, .slice none 0 0], .int .i64 1]) (by simp [results, Try.results13, go_sem, r0, r1, r2, r3, r4]) rfl ⟨_, by rw [HDN.out.1], fun W' _ => by rw [HDN.out.2]; exact zero_isd W', ?_⟩
          clear FR
          go_grown
        · obtain ⟨r0, r1, r2, r3, r4, rlt⟩ := FR.out.r
          have g0 := FR.out.rs 0
          have g1 := FR.out.rs 1
          have g2 := FR.out.rs 2
          have g3 := FR.out.rs 3
          have g4 := FR.out.rs 4
          have t0 := FR.out.t.c0
          have t1 := FR.out.t.c1
          have hbz := FR.out.c
          go_wp2_with fail
          refine bodyPost_ret (v := .tuple #[.agg #[.int .i64 0, .string ⟨#[]⟩, .slice none 0 0, .slice none 0 0, .slice none 0 0], .int .i64 1]) (by simp [results, Try.results13, go_sem, r0, r1, r2, r3, r4]) rfl ⟨_, by rw [HDN.out.1], fun W' _ => by rw [HDN.out.2]; exact zero_isd W', ?_⟩
          clear FR
          go_grown
end Go.Proofs.Ytmpcnkaodjjkbab
