/- WALK of ListEnds. -/
import Derived.Test.YtolpmaapdkhigacLHold
import Derived.Deep.RegionHeld3
import Derived.Handy
namespace Go.Proofs.Ytolpmaapdkhigac
open Go.RowKit

set_option maxRecDepth 100000 in
set_option maxHeartbeats 4000000 in
theorem listEnds_walk (v : Value) (x : Itm) (left : Bool) (al : Option Addr) (cl : Nat) (l : List ByteArray) (w : World) (h : ItemIs w v x) (hl : TextsAt w al l) (hll : l.length ≤ 281474976710656) :
    Calls Try.prog 4 #[v, .bool left, .slice al l.length cl] w fun e w' => e = .returned (.bool true) ∧ Below w.heap.size w w' := by
  have HG := hide listBegun_any
  have HP : Hid (∀ W, Below w.heap.size w W → Calls Try.prog 5 #[v, .bool left, .slice al l.length cl] W fun e w' => ∃ u, e = .returned (.tuple #[u, .int .i64 (pushN x l), .int .i64 (pushE x l)]) ∧ ItemFrom W.heap.size w' u (pushI x left l) ∧ Below W.heap.size W w') := fun W hW => push_any v x left al cl l W (h.below hW) (hl.below hW) hll
  have HX := hide h
  have HL := hide hl
  obtain ⟨⟨a1, c1, a2, c2, a3, c3, rfl, -, -, -⟩, -, -, -, -, -, -, -⟩ := h
  clear hl
  by_cases hE : pushE x l = 0
  · obtain ⟨h0, h24, hlong, hne⟩ := pushE_zero hE
    obtain ⟨hxe, -, hxl⟩ := asI_list h0
    have hN : pushN x l = ((x.l.length : Nat) : Int) + ((l.length : Nat) : Int) := by rw [pushN, if_pos hE]
    have hI : pushI x left l = lstI (pushL x.l left l) := by rw [pushI, if_pos hE]
    rw [hE, hN, hI] at HP
    have hPE : pushE Itm.none l = 0 := by
      have ha : asI Itm.none 2 = 0 := lst_as (l := []) (by decide) rfl
      rw [pushE, if_neg (by simp [ha]), if_neg (by rintro (h' | h'); simp [Itm.none] at h'; omega; rw [hlong] at h'; cases h'), if_neg hne]
    have hPN : pushN Itm.none l = ((l.length : Nat) : Int) := by rw [pushN, if_pos hPE]; simp [Itm.none]
    have hPI : pushI Itm.none left l = lstI (pushL [] left l) := by rw [pushI, if_pos hPE]; rfl
    have HP2 : Hid (∀ W, Below w.heap.size w W → Calls Try.prog 5 #[.agg #[.int .i64 0, .string ⟨#[]⟩, .slice none 0 0, .slice none 0 0, .slice none 0 0], .bool left, .slice al l.length cl] W fun e w' => ∃ u, e = .returned (.tuple #[u, .int .i64 ((l.length : Nat) : Int), .int .i64 0]) ∧ ItemFrom W.heap.size w' u (lstI (pushL [] left l)) ∧ Below W.heap.size W w') := fun W hW => by
      have hh := push_any _ Itm.none left al cl l W (zero_is W) (HL.out.below hW) hll
      rw [hPE, hPN, hPI] at hh
      exact hh
    clear hE hN hI h0 hPE hPN hPI
    have HXE := hide hxe
    have HXL := hide hxl
    have HLO := hide hlong
    have HNE := hide hne
    have hlp : 0 < l.length := List.length_pos_iff.2 hne
    clear hxe hxl hlong hne
    generalize hk : x.k = k at *
    generalize ht : x.t = t at *
    generalize hn1 : x.l.length = n1 at *
    generalize hn2 : x.p.length = n2 at *
    generalize hn3 : x.s.length = n3 at *
    go_enter Try.func4, Try.ntmps4
    go_wp2_with fail
    refine (HG.out _).mono ?_
    rintro e w1 ⟨rfl, hb1⟩
    obtain ⟨e1, f1⟩ := bcell hb1
    have z1 : w.heap.size < w1.heap.size := by have := hb1.size; simp at this; omega
    have B1 : Below w.heap.size w w1 := ((Below.refl _ w).alloc (Nat.le_refl _) _).trans (hb1.mono (by simp))
    have X1 := hide ((BoxAt.new w (.int .i64 k) (.string t) (.slice a1 n1 c1) (.slice a2 n2 c2) (.slice a3 n3 c3) 26).below hb1)
    go_wp2_with fail
    refine (HP.out _ B1).mono ?_
    rintro e w2 ⟨u2, rfl, i2, hb2⟩
    have B2 : Below w.heap.size w w2 := B1.trans (hb2.mono B1.size)
    have X2 := hide (X1.out.below hb2)
    have I2 := hide i2
    obtain ⟨k2, t2, a21, n21, c21, a22, n22, c22, a23, n23, c23, rfl⟩ := i2.shape
    clear i2 hb1 hb2 e1 f1 X1
    go_wp2_with fail
    have HH0 := held_start (w1 := w2.alloc (.cells #[.int .i64 k2, .string t2, .slice a21 n21 c21, .slice a22 n22 c22, .slice a23 n23 c23] 26)) I2.out X2.out B2 ((Below.refl _ w2).alloc (Nat.le_refl _) _) 26
    rw [World.size_alloc] at HH0
    clear I2 X2 HG HP
    generalize hW0 : World.alloc (World.alloc w2 _) _ = W0 at *
    have hg1 : w.heap.size ≤ w2.heap.size + 1 := by have := B2.size; omega
    have hg2 : w.heap.size ≠ w2.heap.size + 1 := by have := B2.size; omega
    clear hW0 B1 B2 z1
    generalize w2.heap.size + 1 = gb at *
    have HS := hide HH0
    clear HH0
    go_loopw [11] (fun i wr => ∃ j : Nat, j ≤ l.length ∧ i = .int .i64 ((j : Int) - 1) ∧ Held w gb (lstI (pushL x.l left (l.take j))) w.heap.size (.int .i64 k) (.string t) (.slice a1 n1 c1) (.slice a2 n2 c2) (.slice a3 n3 c3) wr) (fun i _ => (intOf i + 1).toNat)
    case atStart => exact ⟨l.length, Nat.le_refl _, rfl, by rw [List.take_length]; exact HS.out⟩
    case round =>
      obtain ⟨j, hj, hi, hH⟩ := hrel
      have HH := hide hH
      obtain ⟨k3, t3, a31, n31, c31, a32, n32, c32, a33, n33, c33, hbox, hoff⟩ := hH.box
      have HO := hide hoff.is
      have HB := hide hH.bel
      obtain ⟨q0, q1, q2, q3, q4, ql⟩ := hbox
      obtain ⟨x0, x1, x2, x3, x4, xl⟩ := hH.xb
      clear HS hH hoff
      cases j with
      | zero =>
        have hi2 := hi.trans (show Value.int .i64 (((0 : Nat) : Int) - 1) = .int .i64 (-1) from rfl)
        subst hi2
        have e0 : lstI (pushL x.l left (l.take 0)) = x := by rw [List.take_zero, push_none]; exact HXE.out.symm
        rw [e0] at HO
        have HS1 : Hid (∀ W, Below wr.heap.size wr W → Calls Try.prog 19 #[.agg #[.int .i64 k3, .string t3, .slice a31 n31 c31, .slice a32 n32 c32, .slice a33 n33 c33], .agg #[.int .i64 k, .string t, .slice a1 n1 c1, .slice a2 n2 c2, .slice a3 n3 c3]] W fun e w' => e = .returned (.bool true) ∧ Below wr.heap.size wr w') := fun W hW => by
          have hh := sameItem_any _ _ x x W (HO.out.below hW) (HX.out.below (HB.out.trans (hW.mono HB.out.size)))
          rw [show sameI x x = true by simp [sameI]] at hh
          exact hh.mono fun e w' ⟨h1, h2⟩ => ⟨h1, hW.trans (h2.mono hW.size)⟩
        have HN1 : Hid (∀ W, Below wr.heap.size wr W → Calls Try.prog 20 #[.agg #[.int .i64 k3, .string t3, .slice a31 n31 c31, .slice a32 n32 c32, .slice a33 n33 c33]] W fun e w' => e = .returned (.bool x.isNone) ∧ Below wr.heap.size wr w') := fun W hW => (nothing_any _ x W (HO.out.below hW)).mono fun e w' ⟨h1, h2⟩ => ⟨h1, hW.trans (h2.mono hW.size)⟩
        have HN2 : Hid (∀ W, Below wr.heap.size wr W → Calls Try.prog 20 #[.agg #[.int .i64 k, .string t, .slice a1 n1 c1, .slice a2 n2 c2, .slice a3 n3 c3]] W fun e w' => e = .returned (.bool x.isNone) ∧ Below wr.heap.size wr w') := fun W hW => (nothing_any _ x W (HX.out.below (HB.out.trans (hW.mono HB.out.size)))).mono fun e w' ⟨h1, h2⟩ => ⟨h1, hW.trans (h2.mono hW.size)⟩
        clear HX HXE HXL HO e0 HH
        generalize x.isNone = N at *
        have HC : Hid (∀ W, Below wr.heap.size wr W → W.cell? ⟨gb, 0, none⟩ = some (.int .i64 k3) ∧ W.cell? ⟨gb, 1, none⟩ = some (.string t3) ∧ W.cell? ⟨gb, 2, none⟩ = some (.slice a31 n31 c31) ∧ W.cell? ⟨gb, 3, none⟩ = some (.slice a32 n32 c32) ∧ W.cell? ⟨gb, 4, none⟩ = some (.slice a33 n33 c33) ∧ W.cell? ⟨w.heap.size, 0, none⟩ = some (.int .i64 k) ∧ W.cell? ⟨w.heap.size, 1, none⟩ = some (.string t) ∧ W.cell? ⟨w.heap.size, 2, none⟩ = some (.slice a1 n1 c1) ∧ W.cell? ⟨w.heap.size, 3, none⟩ = some (.slice a2 n2 c2) ∧ W.cell? ⟨w.heap.size, 4, none⟩ = some (.slice a3 n3 c3)) := fun W hW => ⟨(hW.cell (p := ⟨gb, 0, none⟩) ql).trans q0, (hW.cell (p := ⟨gb, 1, none⟩) ql).trans q1, (hW.cell (p := ⟨gb, 2, none⟩) ql).trans q2, (hW.cell (p := ⟨gb, 3, none⟩) ql).trans q3, (hW.cell (p := ⟨gb, 4, none⟩) ql).trans q4, (hW.cell (p := ⟨w.heap.size, 0, none⟩) xl).trans x0, (hW.cell (p := ⟨w.heap.size, 1, none⟩) xl).trans x1, (hW.cell (p := ⟨w.heap.size, 2, none⟩) xl).trans x2, (hW.cell (p := ⟨w.heap.size, 3, none⟩) xl).trans x3, (hW.cell (p := ⟨w.heap.size, 4, none⟩) xl).trans x4⟩
        have hD : Below wr.heap.size wr wr.drew := (Below.refl _ wr).drew
        have HXB : Hid (∀ W, Below wr.heap.size wr W → BoxAt W w.heap.size (.int .i64 k) (.string t) (.slice a1 n1 c1) (.slice a2 n2 c2) (.slice a3 n3 c3)) := fun W hW => BoxAt.below ⟨x0, x1, x2, x3, x4, xl⟩ hW
        have HSS : Hid (∀ W, Below wr.heap.size wr W → (fun w' => w'.cell? ⟨gb, 0, none⟩ = some (.int .i64 k3) ∧ w'.cell? ⟨gb, 1, none⟩ = some (.string t3) ∧ w'.cell? ⟨gb, 2, none⟩ = some (.slice a31 n31 c31) ∧ w'.cell? ⟨gb, 3, none⟩ = some (.slice a32 n32 c32) ∧ w'.cell? ⟨gb, 4, none⟩ = some (.slice a33 n33 c33) ∧ w'.cell? ⟨w.heap.size, 0, none⟩ = some (.int .i64 k) ∧ w'.cell? ⟨w.heap.size, 1, none⟩ = some (.string t) ∧ w'.cell? ⟨w.heap.size, 2, none⟩ = some (.slice a1 n1 c1) ∧ w'.cell? ⟨w.heap.size, 3, none⟩ = some (.slice a2 n2 c2) ∧ w'.cell? ⟨w.heap.size, 4, none⟩ = some (.slice a3 n3 c3) ∧ Below wr.heap.size wr w') W) := fun W hW => by
          obtain ⟨y0, y1, y2, y3, y4, y5, y6, y7, y8, y9⟩ := HC.out W hW
          exact ⟨y0, y1, y2, y3, y4, y5, y6, y7, y8, y9, hW⟩
        clear HC
        go_wp2_with fail
        refine wp_region_held_drew (S := (fun w' => w'.cell? ⟨gb, 0, none⟩ = some (.int .i64 k3) ∧ w'.cell? ⟨gb, 1, none⟩ = some (.string t3) ∧ w'.cell? ⟨gb, 2, none⟩ = some (.slice a31 n31 c31) ∧ w'.cell? ⟨gb, 3, none⟩ = some (.slice a32 n32 c32) ∧ w'.cell? ⟨gb, 4, none⟩ = some (.slice a33 n33 c33) ∧ w'.cell? ⟨w.heap.size, 0, none⟩ = some (.int .i64 k) ∧ w'.cell? ⟨w.heap.size, 1, none⟩ = some (.string t) ∧ w'.cell? ⟨w.heap.size, 2, none⟩ = some (.slice a1 n1 c1) ∧ w'.cell? ⟨w.heap.size, 3, none⟩ = some (.slice a2 n2 c2) ∧ w'.cell? ⟨w.heap.size, 4, none⟩ = some (.slice a3 n3 c3) ∧ Below wr.heap.size wr w')) (by kernel_rfl) (HSS.out _ hD) (fun hHeld => ?_)
        refine wpAnyH_take (i := 0) (v := .agg #[.int .i64 k3, .string t3, .slice a31 n31 c31, .slice a32 n32 c32, .slice a33 n33 c33]) rfl (by kernel_rfl) (by kernel_rfl) (by kernel_rfl) (fun _ _ _ h => h) (Or.inl ⟨by kernel_rfl, by intro w hSw; (try dsimp only at hSw); go_simp⟩) (by assumption) ?_
        refine wpAnyH_take (i := 1) (v := .agg #[.int .i64 k, .string t, .slice a1 n1 c1, .slice a2 n2 c2, .slice a3 n3 c3]) rfl (by kernel_rfl) (by kernel_rfl) (by kernel_rfl) (fun _ _ _ h => h) (Or.inl ⟨by kernel_rfl, by intro w hSw; (try dsimp only at hSw); go_simp⟩) (by assumption) ?_
        refine wpAnyH_ready (rs := [2]) (by kernel_rfl) (by simp) ?_
        refine AllReadyH.cons rfl (fun K hK => ?_) AllReadyH.nil
        go_simp
        refine (HS1.out _ hD).mono ?_
        rintro e w4 ⟨rfl, hb4⟩
        refine hK.out _ _ (HSS.out _ hb4) (fun hHeld => ?_)
        clear hK K hHeld
        have hHeld := HSS.out _ hb4
        refine wpAnyH_take (i := 3) (v := .bool false) rfl (by kernel_rfl) (by kernel_rfl) (by kernel_rfl) (fun _ _ _ h => h) (Or.inl ⟨by kernel_rfl, by intro w hSw; (try dsimp only at hSw); go_simp⟩) (by assumption) ?_
        refine wpAnyH_take (i := 4) (v := .bool false) rfl (by kernel_rfl) (by kernel_rfl) (by kernel_rfl) (fun _ _ _ h => h) (Or.inl ⟨by kernel_rfl, by intro w hSw; (try dsimp only at hSw); go_simp⟩) (by assumption) ?_
        refine wpAnyH_take (i := 5) (v := undef) rfl (by kernel_rfl) (by kernel_rfl) (by kernel_rfl) (fun _ _ _ h => h) (Or.inr ⟨by kernel_rfl, rfl⟩) (by assumption) ?_
        refine wpAnyH_take (i := 6) (v := undef) rfl (by kernel_rfl) (by kernel_rfl) (by kernel_rfl) (fun _ _ _ h => h) (Or.inr ⟨by kernel_rfl, rfl⟩) (by assumption) ?_
        refine wpAnyH_take (i := 7) (v := undef) rfl (by kernel_rfl) (by kernel_rfl) (by kernel_rfl) (fun _ _ _ h => h) (Or.inr ⟨by kernel_rfl, rfl⟩) (by assumption) ?_
        refine wpAnyH_take (i := 8) (v := .bool false) rfl (by kernel_rfl) (by kernel_rfl) (by kernel_rfl) (fun _ _ _ h => h) (Or.inl ⟨by kernel_rfl, by intro w hSw; (try dsimp only at hSw); go_simp⟩) (by assumption) ?_
        refine wpAnyH_take (i := 9) (v := .bool false) rfl (by kernel_rfl) (by kernel_rfl) (by kernel_rfl) (fun _ _ _ h => h) (Or.inl ⟨by kernel_rfl, by intro w hSw; (try dsimp only at hSw); go_simp⟩) (by assumption) ?_
        refine wpAnyH_take (i := 10) (v := .agg #[.int .i64 k3, .string t3, .slice a31 n31 c31, .slice a32 n32 c32, .slice a33 n33 c33]) rfl (by kernel_rfl) (by kernel_rfl) (by kernel_rfl) (fun _ _ _ h => h) (Or.inl ⟨by kernel_rfl, by intro w hSw; (try dsimp only at hSw); go_simp⟩) (by assumption) ?_
        refine wpAnyH_take (i := 12) (v := .agg #[.int .i64 k, .string t, .slice a1 n1 c1, .slice a2 n2 c2, .slice a3 n3 c3]) rfl (by kernel_rfl) (by kernel_rfl) (by kernel_rfl) (fun _ _ _ h => h) (Or.inl ⟨by kernel_rfl, by intro w hSw; (try dsimp only at hSw); go_simp⟩) (by assumption) ?_
        refine wpAnyH_ready (rs := [11]) (by kernel_rfl) (by simp) ?_
        refine AllReadyH.cons rfl (fun K hK => ?_) AllReadyH.nil
        · go_simp
          refine (HN1.out _ hb4).mono ?_
          rintro e w5 ⟨rfl, hb5⟩
          refine hK.out _ _ (HSS.out _ hb5) (fun hHeld => ?_)
          clear hK K hHeld
          have hHeld := HSS.out _ hb5
          refine wpAnyH_ready (rs := [13]) (by kernel_rfl) (by simp) ?_
          refine AllReadyH.cons rfl (fun K hK => ?_) AllReadyH.nil
          go_simp
          refine (HN2.out _ hb5).mono ?_
          rintro e w6 ⟨rfl, hb6⟩
          refine hK.out _ _ (HSS.out _ hb6) (fun hHeld => ?_)
          clear hK K hHeld hb4 hb5
          have hHeld := HSS.out _ hb6
          refine wpAnyH_take (i := 14) (v := .bool false) rfl (by kernel_rfl) (by kernel_rfl) (by kernel_rfl) (fun _ _ _ h => h) (Or.inl ⟨by kernel_rfl, by intro w hSw; (try dsimp only at hSw); go_simp⟩) (by assumption) ?_
          refine wpAnyH_take (i := 15) (v := .bool false) rfl (by kernel_rfl) (by kernel_rfl) (by kernel_rfl) (fun _ _ _ h => h) (Or.inl ⟨by kernel_rfl, by intro w hSw; (try dsimp only at hSw); go_simp⟩) (by assumption) ?_
          refine wpAnyH_done (by kernel_rfl) ?_ _
          clear hHeld
          have BW : Below w.heap.size w w6 := HB.out.trans (hb6.mono HB.out.size)
          have XW := hide (HXB.out _ hb6)
          clear hb6 HXB HSS HS1 HN1 HN2 hD q0 q1 q2 q3 q4 ql x0 x1 x2 x3 x4 xl
          go_wp2_with fail
          refine (HP2.out _ BW).mono ?_
          rintro e w7 ⟨u7', rfl, i7, hb7⟩
          have B7 : Below w.heap.size w w7 := BW.trans (hb7.mono BW.size)
          have X7 := hide (XW.out.below hb7)
          have I7 := hide i7
          obtain ⟨k7, t7, a71, n71, c71, a72, n72, c72, a73, n73, c73, rfl⟩ := i7.shape
          clear i7 hb7 XW HP2 BW
          go_wp2_with fail
          have HH7 := hide (held_start (w1 := w7) I7.out X7.out B7 (Below.refl _ _) 26)
          generalize hW7 : World.alloc w7 _ = W7 at *
          have hg7 : w.heap.size ≤ w7.heap.size := B7.size
          have hg8 : w.heap.size ≠ w7.heap.size := by have := World.block_lt_of_cell? _ _ X7.out.c0; simp only at this; omega
          clear hW7 B7 I7 X7
          generalize w7.heap.size = gc at *
          go_loopw [18] (fun i wr => ∃ j : Nat, j ≤ l.length ∧ i = .int .i64 (j : Int) ∧ Held w gc (lstI (pushL [] left (l.drop j))) w.heap.size (.int .i64 k) (.string t) (.slice a1 n1 c1) (.slice a2 n2 c2) (.slice a3 n3 c3) wr) (fun i _ => l.length - (intOf i).toNat)
          case atStart => exact ⟨0, Nat.zero_le _, rfl, by rw [List.drop_zero]; exact HH7.out⟩
          case round =>
            rename_i wq
            obtain ⟨j, hj, rfl, hH⟩ := hrel
            have HH' := hide hH
            obtain ⟨k3', t3', a31', n31', c31', a32', n32', c32', a33', n33', c33', hbox, hoff⟩ := hH.box
            have HO := hide hoff.is
            have HB' := hide hH.bel
            obtain ⟨q0, q1, q2, q3, q4, ql⟩ := hbox
            clear HH7 hH hoff
            by_cases hlt : j < l.length
            · obtain ⟨g, o, rfl, hcs⟩ : ∃ g o, al = some ⟨g, o, none⟩ ∧ ∀ i (h : i < l.length), w.cell? ⟨g, o + i, none⟩ = some (.string l[i]) := by
                rcases HL.out with h | h
                · exact absurd h HNE.out
                · exact h
              have HD : Hid (w.cell? ⟨g, o + j, none⟩ = some (.string l[j])) := hcs j hlt
              obtain ⟨p1, p2, p3⟩ := pop_other (left := left) hlt (by omega) HLO.out
              have HQ : Hid (Calls Try.prog 6 #[.agg #[.int .i64 k3', .string t3', .slice a31' n31' c31', .slice a32' n32' c32', .slice a33' n33' c33'], .bool (!left)] wr fun e w' => ∃ u, e = .returned (.tuple #[u, .string l[j], .int .i64 0]) ∧ ItemFrom wr.heap.size w' u (lstI (pushL [] left (l.drop (j + 1)))) ∧ Below wr.heap.size wr w') := by
                have hh := pop_any _ _ (!left) wr HO.out
                rw [p1, p2, p3] at hh
                exact hh
              clear hcs HO p1 p2 p3 HL
              have hm' : ((j : Nat) : Int) < ((l.length : Nat) : Int) := by omega
              generalize l[j] = Y at *
              go_wp2_with fail
              refine HQ.out.mono ?_
              rintro e w8 ⟨u8', rfl, i8, hb8⟩
              have I8 := hide i8
              obtain ⟨k8, t8, a81, n81, c81, a82, n82, c82, a83, n83, c83, rfl⟩ := i8.shape
              have HW : Hid (Below wr.heap.size wr w8) := hb8
              have hd0 : w8.cell? ⟨g, o + j, none⟩ = some (.string Y) := ((HB'.out.trans (hb8.mono HB'.out.size)).cell (p := ⟨g, o + j, none⟩) (World.block_lt_of_cell? _ _ HD.out)).trans HD.out
              have hdl := World.block_lt_of_cell? _ _ hd0
              have hgl : gc < w8.heap.size := Nat.lt_of_lt_of_le ql hb8.size
              have hgn : gc ≠ w8.heap.size := by omega
              have hgn' : w8.heap.size ≠ gc := by omega
              have r0 := (hb8.cell (p := ⟨gc, 0, none⟩) ql).trans q0
              have r1 := (hb8.cell (p := ⟨gc, 1, none⟩) ql).trans q1
              have r2 := (hb8.cell (p := ⟨gc, 2, none⟩) ql).trans q2
              have r3 := (hb8.cell (p := ⟨gc, 3, none⟩) ql).trans q3
              have r4 := (hb8.cell (p := ⟨gc, 4, none⟩) ql).trans q4
              obtain ⟨f0, f1, f2, f3, f4⟩ := HH'.out.soft.below hb8 ql
              clear i8 hb8 HQ q0 q1 q2 q3 q4
              go_wp2_with fail
              go_roundw
              case rel => exact ⟨j + 1, by omega, by go_num, (HH'.out.step hg8 hg7 HW.out I8.out).alloc _⟩
              case measure => simp [intOf]; omega
            · obtain rfl : j = l.length := by omega
              have hge : ¬ ((l.length : Nat) : Int) < ((l.length : Nat) : Int) := by omega
              rw [List.drop_length, push_none] at HO
              have HN := hide (nothing_any _ _ wr HO.out)
              rw [show (lstI []).isNone = true by decide +kernel] at HN
              clear HO HL
              go_wp2_with fail
              refine HN.out.mono ?_
              rintro e w8 ⟨rfl, hb8⟩
              go_wp2_with fail
              go_ret
              exact ⟨rfl, HB'.out.trans (hb8.mono HB'.out.size)⟩
      | succ m =>
        have hi2 := hi.trans (show Value.int .i64 (((m + 1 : Nat) : Int) - 1) = .int .i64 (m : Int) by congr 1; omega)
        subst hi2
        obtain ⟨g, o, rfl, hcs⟩ : ∃ g o, al = some ⟨g, o, none⟩ ∧ ∀ i (h : i < l.length), w.cell? ⟨g, o + i, none⟩ = some (.string l[i]) := by
          rcases HL.out with h | h
          · exact absurd h HNE.out
          · exact h
        have HD : Hid (w.cell? ⟨g, o + m, none⟩ = some (.string l[m])) := hcs m (by omega)
        obtain ⟨p1, p2, p3⟩ := pop_pushed (there := x.l) (left := left) (show m < l.length by omega) (by rw [hn1]; exact h24) HXL.out HLO.out
        have HQ : Hid (Calls Try.prog 6 #[.agg #[.int .i64 k3, .string t3, .slice a31 n31 c31, .slice a32 n32 c32, .slice a33 n33 c33], .bool left] wr fun e w' => ∃ u, e = .returned (.tuple #[u, .string l[m], .int .i64 0]) ∧ ItemFrom wr.heap.size w' u (lstI (pushL x.l left (l.take m))) ∧ Below wr.heap.size wr w') := by
          have hh := pop_any _ _ left wr HO.out
          rw [p1, p2, p3] at hh
          exact hh
        clear hcs HO p1 p2 p3 hi HL
        have hm : m < l.length := by omega
        have hm' : ((m : Nat) : Int) < ((l.length : Nat) : Int) := by omega
        generalize l[m] = Y at *
        go_wp2_with fail
        refine HQ.out.mono ?_
        rintro e w3 ⟨u3, rfl, i3, hb3⟩
        have I3 := hide i3
        obtain ⟨k4, t4, a41, n41, c41, a42, n42, c42, a43, n43, c43, rfl⟩ := i3.shape
        have HW : Hid (Below wr.heap.size wr w3) := hb3
        have hd0 : w3.cell? ⟨g, o + m, none⟩ = some (.string Y) := ((HB.out.trans (hb3.mono HB.out.size)).cell (p := ⟨g, o + m, none⟩) (World.block_lt_of_cell? _ _ HD.out)).trans HD.out
        have hdl := World.block_lt_of_cell? _ _ hd0
        have hgl : gb < w3.heap.size := Nat.lt_of_lt_of_le ql hb3.size
        have hgn : gb ≠ w3.heap.size := by omega
        have hgn' : w3.heap.size ≠ gb := by omega
        have r0 := (hb3.cell (p := ⟨gb, 0, none⟩) ql).trans q0
        have r1 := (hb3.cell (p := ⟨gb, 1, none⟩) ql).trans q1
        have r2 := (hb3.cell (p := ⟨gb, 2, none⟩) ql).trans q2
        have r3 := (hb3.cell (p := ⟨gb, 3, none⟩) ql).trans q3
        have r4 := (hb3.cell (p := ⟨gb, 4, none⟩) ql).trans q4
        obtain ⟨f0, f1, f2, f3, f4⟩ := HH.out.soft.below hb3 ql
        clear i3 hb3 HQ q0 q1 q2 q3 q4
        go_wp2_with fail
        go_roundw
        case rel => exact ⟨m, by omega, by go_num, (HH.out.step hg2 hg1 HW.out I3.out).alloc _⟩
        case measure => simp [intOf]
  · have hE' : (pushE x l == 0) = false := by rw [beq_eq_false_iff_ne]; exact hE
    have hN : pushN x l = 0 := by rw [pushN, if_neg hE]
    rw [hN] at HP
    clear hN HL HX
    generalize pushI x left l = X at *
    generalize pushE x l = E at *
    generalize x.k = k at *
    generalize x.t = t at *
    generalize x.l.length = n1 at *
    generalize x.p.length = n2 at *
    generalize x.s.length = n3 at *
    go_enter Try.func4, Try.ntmps4
    go_wp2_with fail
    refine (HG.out _).mono ?_
    rintro e w1 ⟨rfl, hb1⟩
    obtain ⟨e1, f1⟩ := bcell hb1
    have z1 : w.heap.size < w1.heap.size := by have := hb1.size; simp at this; omega
    have B1 : Below w.heap.size w w1 := ((Below.refl _ w).alloc (Nat.le_refl _) _).trans (hb1.mono (by simp))
    go_wp2_with fail
    refine (HP.out _ B1).mono ?_
    rintro e w2 ⟨u2, rfl, i2, hb2⟩
    obtain ⟨k2, t2, a21, n21, c21, a22, n22, c22, a23, n23, c23, rfl⟩ := i2.shape
    have B2 : Below w.heap.size w w2 := B1.trans (hb2.mono B1.size)
    clear i2
    go_wp2_with fail
    go_ret
    exact ⟨rfl, B2.alloc B2.size _⟩
end Go.Proofs.Ytolpmaapdkhigac
