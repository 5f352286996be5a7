/- WALK of the reference's lists: PushOf. -/
import Derived.Test.YtolpmaapdkhigacRLst3
import Derived.Test.YtolpmaapdkhigacLst4
import Derived.Handy
namespace Go.Proofs.Ytolpmaapdkhigac
open Go.RowKit

theorem pushE_ref (x : Itm) (l : List ByteArray) (h0 : asI x 2 = 0) : pushE x l = if someE l ≠ 0 then someE l else if 24 < x.l.length + l.length then 2 else 0 := by
  obtain ⟨-, h24, -⟩ := asI_list h0
  unfold pushE someE
  rw [if_neg (by simp [h0])]
  by_cases hl : l = []
  · subst hl; simp; omega
  · by_cases hb : l.any longT = true
    · simp [hl, hb]
    · simp [hl, hb]
theorem pushL_none (L : List ByteArray) (left : Bool) : pushL L left [] = L := by
  unfold pushL
  split <;> simp
theorem pushL_len (L l : List ByteArray) (left : Bool) : (pushL L left l).length = L.length + l.length := by
  unfold pushL
  split <;> simp <;> omega
theorem pushL_step (L l : List ByteArray) (left : Bool) {k : Nat} (h : k < l.length) : pushL L left (l.take (k + 1)) = if left then l[k] :: pushL L left (l.take k) else pushL L left (l.take k) ++ [l[k]] := by
  have et : l.take (k + 1) = l.take k ++ [l[k]] := by rw [List.take_append_getElem]
  rw [et]
  unfold pushL
  cases left with
  | true => rw [if_pos rfl, if_pos rfl, if_pos rfl, List.reverse_append]; rfl
  | false => rw [if_neg (by decide), if_neg (by decide), if_neg (by decide), List.append_assoc]
theorem pushL_mem {L l : List ByteArray} {left : Bool} {t : ByteArray} (h : t ∈ pushL L left l) : t ∈ L ∨ t ∈ l := by
  unfold pushL at h
  split at h
  · rcases List.mem_append.1 h with h | h
    · exact .inr (List.mem_reverse.1 h)
    · exact .inl h
  · rcases List.mem_append.1 h with h | h
    · exact .inl h
    · exact .inr h
set_option maxRecDepth 100000 in
set_option maxHeartbeats 8000000 in
theorem pushOf_any (v : Value) (x : Itm) (left : Bool) (al : Option Addr) (cl : Nat) (l : List ByteArray) (w : World) (h : ItemIs w v x) (hl : TextsAt w al l) (hlz : ∀ t ∈ l, t.size ≤ maxLen) (hll : l.length ≤ 281474976710656) :
    Calls Try.prog 10 #[v, .bool left, .slice al l.length cl] w fun e w' => ∃ u, e = .returned (.tuple #[u, .int .i64 (pushN x l), .int .i64 (pushE x l)]) ∧ ItemFrom w.heap.size w' u (pushI x left l) ∧ Below w.heap.size w w' := by
  have HC : Hid (∀ W, Below w.heap.size w W → Calls Try.prog 13 #[v, .int .i64 2] W fun e w' => e = .returned (.int .i64 (asI x 2)) ∧ Below W.heap.size W w') := fun W hW => refAs_any v x 2 W (h.below hW)
  have HSM : Hid (∀ W, Below w.heap.size w W → Calls Try.prog 30 #[.slice al l.length cl] W fun e w' => e = .returned (.int .i64 (someE l)) ∧ w' = W) := fun W hW => checkSome_any al cl l W (hl.below hW) hll
  obtain ⟨⟨a1, c1, a2, c2, a3, c3, rfl, hx1, -, -⟩, tz, lz, -, -, -, -, -⟩ := h
  have HX := hide hx1
  have HL := hide hl
  clear hx1 hl
  by_cases h0 : asI x 2 = 0
  · obtain ⟨hxe, hx24, hxl⟩ := asI_list h0
    have hE := pushE_ref x l h0
    rw [h0] at HC
    by_cases hs0 : someE l = 0
    · rw [if_neg (by simp [hs0])] at hE
      by_cases hbig : 24 < x.l.length + l.length
      · rw [if_pos hbig] at hE
        rw [pushN, pushI, hE, if_neg (by decide), if_neg (by decide)]
        have hbig' : (24 : Int) < ((x.l.length : Nat) : Int) + ((l.length : Nat) : Int) := by omega
        rw [hs0] at HSM
        clear hE h0 hxl hxe hs0 lz hlz HX HL
        generalize x.l = L at *
        generalize x.t = t at *
        generalize x.k = k at *
        generalize x.p.length = n2 at *
        generalize x.s.length = n3 at *
        go_enter Try.func10, Try.ntmps10
        go_wp2_with fail
        refine (HC.out _ (((Below.refl _ w).alloc (Nat.le_refl _) _).alloc (by simp) _)).mono ?_
        rintro e w1 ⟨rfl, hb1⟩
        obtain ⟨hc, hf⟩ := bcell hb1
        have hz : w.heap.size + 1 < w1.heap.size := by have := hb1.size; simp at this; omega
        have hy : w.heap.size < w1.heap.size := by omega
        have hB1 : Below w.heap.size w w1 := (((Below.refl _ w).alloc (Nat.le_refl _) _).alloc (by simp) _).trans (hb1.mono (by simp; omega))
        go_wp2_with fail
        refine (HSM.out w1 hB1).mono ?_
        rintro e w1 ⟨rfl, rfl⟩
        go_wp2_with fail
        refine bodyPost_ret (v := .tuple #[.agg #[.int .i64 0, .string ⟨#[]⟩, .slice none 0 0, .slice none 0 0, .slice none 0 0], .int .i64 0, .int .i64 2]) (by simp [results, Try.results10, go_sem, hc]) rfl ⟨_, rfl, fun w'' _ => zero_is w'', ?_⟩
        go_grown
      · rw [if_neg hbig] at hE
        rw [pushN, pushI, hE, if_pos rfl, if_pos rfl]
        have hbig' : ¬ (24 : Int) < ((x.l.length : Nat) : Int) + ((l.length : Nat) : Int) := by omega
        rw [hs0] at HSM
        have HPZ : Hid (∀ t ∈ pushL x.l left l, t.size ≤ maxLen) := fun t ht => (pushL_mem ht).elim (lz t) (hlz t)
        obtain ⟨i0, hi, hz0, hz1, hz2⟩ := info_parts infoStr
        clear hE h0 hxl hxe hs0 lz hlz
        generalize x.l = L at *
        cases left with
        | true =>
          generalize x.t = t at *
          generalize x.k = k at *
          generalize x.p.length = n2 at *
          generalize x.s.length = n3 at *
          go_enter Try.func10, Try.ntmps10
          go_wp2_with fail
          refine (HC.out _ (((Below.refl _ w).alloc (Nat.le_refl _) _).alloc (by simp) _)).mono ?_
          rintro e w1 ⟨rfl, hb1⟩
          obtain ⟨hc, hf⟩ := bcell hb1
          have hz : w.heap.size + 1 < w1.heap.size := by have := hb1.size; simp at this; omega
          have hy : w.heap.size < w1.heap.size := by omega
          have hB1 : Below w.heap.size w w1 := (((Below.refl _ w).alloc (Nat.le_refl _) _).alloc (by simp) _).trans (hb1.mono (by simp; omega))
          go_wp2_with fail
          refine (HSM.out w1 hB1).mono ?_
          rintro e w1 ⟨rfl, rfl⟩
          have HBX : Hid (∀ W, Below w1.heap.size w1 W → (W.cell? ⟨w.heap.size + 1, 0, none⟩ = some (.int .i64 0) ∧ W.cell? ⟨w.heap.size + 1, 1, none⟩ = some (.string ⟨#[]⟩) ∧ W.cell? ⟨w.heap.size + 1, 2, none⟩ = some (.slice none 0 0) ∧ W.cell? ⟨w.heap.size + 1, 3, none⟩ = some (.slice none 0 0) ∧ W.cell? ⟨w.heap.size + 1, 4, none⟩ = some (.slice none 0 0)) ∧ (∀ j, W.frozen? ⟨w.heap.size + 1, j, none⟩ = false) ∧ W.cell? ⟨w.heap.size, 2, none⟩ = some (.slice a1 L.length c1)) := fun W hW =>
            ⟨⟨(hW.cell (p := ⟨w.heap.size + 1, 0, none⟩) hz).trans ((hc _ _ (by simp)).trans (by simp [go_sem])), (hW.cell (p := ⟨w.heap.size + 1, 1, none⟩) hz).trans ((hc _ _ (by simp)).trans (by simp [go_sem])), (hW.cell (p := ⟨w.heap.size + 1, 2, none⟩) hz).trans ((hc _ _ (by simp)).trans (by simp [go_sem])), (hW.cell (p := ⟨w.heap.size + 1, 3, none⟩) hz).trans ((hc _ _ (by simp)).trans (by simp [go_sem])), (hW.cell (p := ⟨w.heap.size + 1, 4, none⟩) hz).trans ((hc _ _ (by simp)).trans (by simp [go_sem]))⟩, fun j => (hW.frozen (p := ⟨w.heap.size + 1, j, none⟩) hz).trans ((hf _ _ (by simp)).trans (by simp [go_sem])), (hW.cell (p := ⟨w.heap.size, 2, none⟩) hy).trans ((hc _ _ (by simp; omega)).trans (by simp [go_sem]))⟩
          obtain ⟨-, -, x2⟩ := HBX.out w1 (Below.refl _ _)
          clear hc hf hb1 HC HSM
          go_wp2_with (at_builtin; refine wpList_append_texts rfl _ _ rfl w1.heap.size (.slice (some ⟨w1.heap.size, 0, none⟩) 0 0) 0 [] rfl (World.ownsRow_lit w1 #[] 0 (Nat.le_refl _) (by unfold maxLen; omega) rfl) a1 c1 L rfl (HX.out.below (hB1.alloc hB1.size _)) (by omega) (by simp) ?_)
          intro v2 w2 hown2 hg2
          have hb2 : Below w1.heap.size w1 w2 := ((Below.refl _ w1).alloc (Nat.le_refl _) _).grown hg2 (by simp) (fun j hj => by simp [Value.ownBlock] at hj; omega)
          clear HX x2
          go_wp2_with fail
          go_loopw [10, 11] (fun v i wr => ∃ k : Nat, k ≤ l.length ∧ i = .int .i64 k ∧ wr.ownsRow w1.heap.size 9 1 v (pushL L true (l.take k)).length (strs (pushL L true (l.take k))) ∧ Below w1.heap.size w1 wr) (fun _ i _ => l.length - (intOf i).toNat)
          case atStart => exact ⟨0, Nat.zero_le _, rfl, by rw [List.take_zero, pushL_none]; exact hown2, hb2⟩
          case round =>
            obtain ⟨k', hk', rfl, hown, hbr⟩ := hrel
            have hzr := hbr.size
            have hKl : (pushL L true (l.take k')).length ≤ 24 := by rw [pushL_len, List.length_take]; omega
            have BR : Below w.heap.size w wr := hB1.trans (hbr.mono hB1.size)
            obtain ⟨ao, cp, rfl⟩ := slice_own hown
            by_cases hlt : k' < l.length
            · have hlt' : ((k' : Nat) : Int) < ((l.length : Nat) : Int) := by omega
              obtain ⟨g, o, rfl, hcs⟩ : ∃ g o, al = some ⟨g, o, none⟩ ∧ ∀ i (h : i < l.length), w.cell? ⟨g, o + i, none⟩ = some (.string l[i]) := by
                rcases HL.out with h | h
                · subst h; simp at hlt
                · exact h
              have d0 : wr.cell? ⟨g, o + k', none⟩ = some (.string l[k']) := (BR.cell (p := ⟨g, o + k', none⟩) (World.block_lt_of_cell? _ _ (hcs k' hlt))).trans (hcs k' hlt)
              have HY := hide (pushL_step L l true hlt)
              clear hcs HL HBX HPZ
              generalize l[k'] = X at *
              generalize (pushL L true (l.take k')) = K at *
              go_wp2_with (at_builtin; refine wpList_append_texts rfl _ _ rfl w1.heap.size (.slice (some ⟨wr.heap.size, 0, none⟩) 1 1) 1 [.string X] rfl (World.ownsRow_lit wr #[.string X] 1 hzr (by unfold maxLen; omega) rfl) ao cp _ rfl (texts_own (hown.alloc _)) (by omega) (by simp; omega) ?_)
              intro v' w4 hown4 hgrow
              have hb4 : Below w1.heap.size w1 w4 := (hbr.alloc hzr _).grown hgrow (by simp; omega) (fun j hj => by simp [Value.ownBlock] at hj; omega)
              have hown5 : w4.ownsRow w1.heap.size 9 1 v' (pushL L true (l.take (k' + 1))).length (strs (pushL L true (l.take (k' + 1)))) := by
                rw [HY.out]
                simpa [strs, Nat.add_comm] using hown4
              go_wp2_with fail
              go_roundw
              case rel => exact ⟨k' + 1, by omega, by go_num, hown5, hb4⟩
              case measure => simp [intOf]; omega
            · have hge : ¬ ((k' : Nat) : Int) < ((l.length : Nat) : Int) := by omega
              obtain rfl : k' = l.length := by omega
              rw [List.take_length] at hown hKl
              have HKI : Hid ((((pushL L true l).length : Nat) : Int) = ((L.length : Nat) : Int) + ((l.length : Nat) : Int)) := by rw [Hid, pushL_len, Int.natCast_add]
              obtain ⟨fk, fa, fn, fc, hF, hI⟩ := filled_item (p := fun w' => ∀ g o u, w1.heap.size ≤ g → wr.cell? ⟨g, o, none⟩ = some u → w'.cell? ⟨g, o, none⟩ = some u) (cp := cp) 2 (fun w' hw => texts_from hown hw) HPZ.out (by omega)
              simp only [kindI_two] at hI
              have HF := hide hF
              have HI := hide hI
              rw [List.take_length]
              clear hF hI hown HPZ HL
              go_wp2_with fail
              refine (HF.out _).mono ?_
              rintro e w3 ⟨rfl, hb3⟩
              have hb3' : Below w1.heap.size w1 w3 := hbr.trans (hb3.mono hzr)
              obtain ⟨⟨b0, b1, b2, b3, b4⟩, fz, x3⟩ := HBX.out w3 hb3'
              have fz0 := fz 0
              have fz1 := fz 1
              have fz2 := fz 2
              have fz3 := fz 3
              have fz4 := fz 4
              clear HBX fz
              go_wp2_with fail
              refine bodyPost_ret (v := .tuple #[.agg #[.int .i64 fk, .string ⟨#[]⟩, .slice fa fn fc, .slice none 0 0, .slice none 0 0], .int .i64 (((pushL L true l).length : Nat) : Int), .int .i64 0]) (by simp [results, Try.results10, go_sem, b0, b1, b2, b3, b4]) rfl ⟨_, by rw [HKI.out], ?_, ?_⟩
              · exact fun w'' hw => HI.out w'' (fun g' o' u' hg hu => hw g' o' u' (by omega) ((five_apart w3 (w.heap.size + 1) _ _ _ _ _ g' o' (by omega)).trans ((hb3.cell (p := ⟨g', o', none⟩) (World.block_lt_of_cell? wr _ hu)).trans hu)))
              · have hb3'' := hB1.trans (hb3'.mono hB1.size)
                go_grown
        | false =>
          generalize x.t = t at *
          generalize x.k = k at *
          generalize x.p.length = n2 at *
          generalize x.s.length = n3 at *
          go_enter Try.func10, Try.ntmps10
          go_wp2_with fail
          refine (HC.out _ (((Below.refl _ w).alloc (Nat.le_refl _) _).alloc (by simp) _)).mono ?_
          rintro e w1 ⟨rfl, hb1⟩
          obtain ⟨hc, hf⟩ := bcell hb1
          have hz : w.heap.size + 1 < w1.heap.size := by have := hb1.size; simp at this; omega
          have hy : w.heap.size < w1.heap.size := by omega
          have hB1 : Below w.heap.size w w1 := (((Below.refl _ w).alloc (Nat.le_refl _) _).alloc (by simp) _).trans (hb1.mono (by simp; omega))
          go_wp2_with fail
          refine (HSM.out w1 hB1).mono ?_
          rintro e w1 ⟨rfl, rfl⟩
          have HBX : Hid (∀ W, Below w1.heap.size w1 W → (W.cell? ⟨w.heap.size + 1, 0, none⟩ = some (.int .i64 0) ∧ W.cell? ⟨w.heap.size + 1, 1, none⟩ = some (.string ⟨#[]⟩) ∧ W.cell? ⟨w.heap.size + 1, 2, none⟩ = some (.slice none 0 0) ∧ W.cell? ⟨w.heap.size + 1, 3, none⟩ = some (.slice none 0 0) ∧ W.cell? ⟨w.heap.size + 1, 4, none⟩ = some (.slice none 0 0)) ∧ (∀ j, W.frozen? ⟨w.heap.size + 1, j, none⟩ = false) ∧ W.cell? ⟨w.heap.size, 2, none⟩ = some (.slice a1 L.length c1)) := fun W hW =>
            ⟨⟨(hW.cell (p := ⟨w.heap.size + 1, 0, none⟩) hz).trans ((hc _ _ (by simp)).trans (by simp [go_sem])), (hW.cell (p := ⟨w.heap.size + 1, 1, none⟩) hz).trans ((hc _ _ (by simp)).trans (by simp [go_sem])), (hW.cell (p := ⟨w.heap.size + 1, 2, none⟩) hz).trans ((hc _ _ (by simp)).trans (by simp [go_sem])), (hW.cell (p := ⟨w.heap.size + 1, 3, none⟩) hz).trans ((hc _ _ (by simp)).trans (by simp [go_sem])), (hW.cell (p := ⟨w.heap.size + 1, 4, none⟩) hz).trans ((hc _ _ (by simp)).trans (by simp [go_sem]))⟩, fun j => (hW.frozen (p := ⟨w.heap.size + 1, j, none⟩) hz).trans ((hf _ _ (by simp)).trans (by simp [go_sem])), (hW.cell (p := ⟨w.heap.size, 2, none⟩) hy).trans ((hc _ _ (by simp; omega)).trans (by simp [go_sem]))⟩
          obtain ⟨-, -, x2⟩ := HBX.out w1 (Below.refl _ _)
          clear hc hf hb1 HC HSM
          go_wp2_with (at_builtin; refine wpList_append_texts rfl _ _ rfl w1.heap.size (.slice (some ⟨w1.heap.size, 0, none⟩) 0 0) 0 [] rfl (World.ownsRow_lit w1 #[] 0 (Nat.le_refl _) (by unfold maxLen; omega) rfl) a1 c1 L rfl (HX.out.below (hB1.alloc hB1.size _)) (by omega) (by simp) ?_)
          intro v2 w2 hown2 hg2
          have hb2 : Below w1.heap.size w1 w2 := ((Below.refl _ w1).alloc (Nat.le_refl _) _).grown hg2 (by simp) (fun j hj => by simp [Value.ownBlock] at hj; omega)
          clear HX x2
          go_wp2_with fail
          go_loopw [10, 11] (fun v i wr => ∃ k : Nat, k ≤ l.length ∧ i = .int .i64 k ∧ wr.ownsRow w1.heap.size 9 1 v (pushL L false (l.take k)).length (strs (pushL L false (l.take k))) ∧ Below w1.heap.size w1 wr) (fun _ i _ => l.length - (intOf i).toNat)
          case atStart => exact ⟨0, Nat.zero_le _, rfl, by rw [List.take_zero, pushL_none]; exact hown2, hb2⟩
          case round =>
            obtain ⟨k', hk', rfl, hown, hbr⟩ := hrel
            have hzr := hbr.size
            have hKl : (pushL L false (l.take k')).length ≤ 24 := by rw [pushL_len, List.length_take]; omega
            have BR : Below w.heap.size w wr := hB1.trans (hbr.mono hB1.size)
            obtain ⟨ao, cp, rfl⟩ := slice_own hown
            by_cases hlt : k' < l.length
            · have hlt' : ((k' : Nat) : Int) < ((l.length : Nat) : Int) := by omega
              obtain ⟨g, o, rfl, hcs⟩ : ∃ g o, al = some ⟨g, o, none⟩ ∧ ∀ i (h : i < l.length), w.cell? ⟨g, o + i, none⟩ = some (.string l[i]) := by
                rcases HL.out with h | h
                · subst h; simp at hlt
                · exact h
              have d0 : wr.cell? ⟨g, o + k', none⟩ = some (.string l[k']) := (BR.cell (p := ⟨g, o + k', none⟩) (World.block_lt_of_cell? _ _ (hcs k' hlt))).trans (hcs k' hlt)
              have HY := hide (pushL_step L l false hlt)
              clear hcs HL HBX HPZ
              generalize l[k'] = X at *
              generalize (pushL L false (l.take k')) = K at *
              go_wp2_with (at_builtin; refine wpList_append_own _ rfl _ _ 22 rfl w1.heap.size 9 i0 (.string ⟨#[]⟩) 1 16 Try.underlying22 hi hz0 hz1 hz2 rfl (by decide) _ _ _ rfl (hown.alloc _) ⟨wr.heap.size, 0, none⟩ 1 1 [.string X] rfl rfl ?c1 ?c2 ?c3 ?c4 ?c5 ?_)
              case c1 =>
                intro j u hj
                match j, hj with
                | 0, hj => simp at hj; subst hj; simp [Addr.add]
              case c2 => intro u hu; simp at hu; subst hu; rfl
              case c3 => unfold maxLen; omega
              case c4 => omega
              case c5 => simp; omega
              intro v' w4 hown4 hgrow _
              have hb4 : Below w1.heap.size w1 w4 := (hbr.alloc hzr _).grown hgrow (by simp; omega) (fun j hj => (hown.lt j hj).1)
              have hown5 : w4.ownsRow w1.heap.size 9 1 v' (pushL L false (l.take (k' + 1))).length (strs (pushL L false (l.take (k' + 1)))) := by
                rw [HY.out]
                simpa [strs] using hown4
              go_wp2_with fail
              go_roundw
              case rel => exact ⟨k' + 1, by omega, by go_num, hown5, hb4⟩
              case measure => simp [intOf]; omega
            · have hge : ¬ ((k' : Nat) : Int) < ((l.length : Nat) : Int) := by omega
              obtain rfl : k' = l.length := by omega
              rw [List.take_length] at hown hKl
              have HKI : Hid ((((pushL L false l).length : Nat) : Int) = ((L.length : Nat) : Int) + ((l.length : Nat) : Int)) := by rw [Hid, pushL_len, Int.natCast_add]
              obtain ⟨fk, fa, fn, fc, hF, hI⟩ := filled_item (p := fun w' => ∀ g o u, w1.heap.size ≤ g → wr.cell? ⟨g, o, none⟩ = some u → w'.cell? ⟨g, o, none⟩ = some u) (cp := cp) 2 (fun w' hw => texts_from hown hw) HPZ.out (by omega)
              simp only [kindI_two] at hI
              have HF := hide hF
              have HI := hide hI
              rw [List.take_length]
              clear hF hI hown HPZ HL
              go_wp2_with fail
              refine (HF.out _).mono ?_
              rintro e w3 ⟨rfl, hb3⟩
              have hb3' : Below w1.heap.size w1 w3 := hbr.trans (hb3.mono hzr)
              obtain ⟨⟨b0, b1, b2, b3, b4⟩, fz, x3⟩ := HBX.out w3 hb3'
              have fz0 := fz 0
              have fz1 := fz 1
              have fz2 := fz 2
              have fz3 := fz 3
              have fz4 := fz 4
              clear HBX fz
              go_wp2_with fail
              refine bodyPost_ret (v := .tuple #[.agg #[.int .i64 fk, .string ⟨#[]⟩, .slice fa fn fc, .slice none 0 0, .slice none 0 0], .int .i64 (((pushL L false l).length : Nat) : Int), .int .i64 0]) (by simp [results, Try.results10, go_sem, b0, b1, b2, b3, b4]) rfl ⟨_, by rw [HKI.out], ?_, ?_⟩
              · exact fun w'' hw => HI.out w'' (fun g' o' u' hg hu => hw g' o' u' (by omega) ((five_apart w3 (w.heap.size + 1) _ _ _ _ _ g' o' (by omega)).trans ((hb3.cell (p := ⟨g', o', none⟩) (World.block_lt_of_cell? wr _ hu)).trans hu)))
              · have hb3'' := hB1.trans (hb3'.mono hB1.size)
                go_grown
    · rw [if_pos hs0] at hE
      have hs0' : (someE l == 0) = false := by rw [beq_eq_false_iff_ne]; exact hs0
      rw [pushN, pushI, hE, if_neg hs0, if_neg hs0]
      clear hE h0 hxl hxe lz hlz HX HL
      generalize someE l = E at *
      generalize x.l = L at *
      generalize x.t = t at *
      generalize x.k = k at *
      generalize x.p.length = n2 at *
      generalize x.s.length = n3 at *
      go_enter Try.func10, Try.ntmps10
      go_wp2_with fail
      refine (HC.out _ (((Below.refl _ w).alloc (Nat.le_refl _) _).alloc (by simp) _)).mono ?_
      rintro e w1 ⟨rfl, hb1⟩
      obtain ⟨hc, hf⟩ := bcell hb1
      have hz : w.heap.size + 1 < w1.heap.size := by have := hb1.size; simp at this; omega
      have hy : w.heap.size < w1.heap.size := by omega
      have hB1 : Below w.heap.size w w1 := (((Below.refl _ w).alloc (Nat.le_refl _) _).alloc (by simp) _).trans (hb1.mono (by simp; omega))
      go_wp2_with fail
      refine (HSM.out w1 hB1).mono ?_
      rintro e w1 ⟨rfl, rfl⟩
      go_wp2_with fail
      refine bodyPost_ret (v := .tuple #[.agg #[.int .i64 0, .string ⟨#[]⟩, .slice none 0 0, .slice none 0 0, .slice none 0 0], .int .i64 0, .int .i64 E]) (by simp [results, Try.results10, go_sem, hc]) rfl ⟨_, rfl, fun w'' _ => zero_is w'', ?_⟩
      go_grown
  · have hE : pushE x l = asI x 2 := by rw [pushE, if_pos h0]
    have h0' : (asI x 2 == 0) = false := by rw [beq_eq_false_iff_ne]; exact h0
    rw [pushN, pushI, hE, if_neg h0, if_neg h0]
    clear hE HX HL HSM lz hlz
    generalize asI x 2 = E at *
    generalize x.l = L at *
    generalize x.t = t at *
    generalize x.k = k at *
    generalize x.p.length = n2 at *
    generalize x.s.length = n3 at *
    go_enter Try.func10, Try.ntmps10
    go_wp2_with fail
    refine (HC.out _ (((Below.refl _ w).alloc (Nat.le_refl _) _).alloc (by simp) _)).mono ?_
    rintro e w1 ⟨rfl, hb1⟩
    obtain ⟨hc, hf⟩ := bcell hb1
    have hz : w.heap.size + 1 < w1.heap.size := by have := hb1.size; simp at this; omega
    have hy : w.heap.size < w1.heap.size := by omega
    have hB1 : Below w.heap.size w w1 := (((Below.refl _ w).alloc (Nat.le_refl _) _).alloc (by simp) _).trans (hb1.mono (by simp; omega))
    go_wp2_with fail
    refine bodyPost_ret (v := .tuple #[.agg #[.int .i64 0, .string ⟨#[]⟩, .slice none 0 0, .slice none 0 0, .slice none 0 0], .int .i64 0, .int .i64 E]) (by simp [results, Try.results10, go_sem, hc]) rfl ⟨_, rfl, fun w'' _ => zero_is w'', ?_⟩
    go_grown
end Go.Proofs.Ytolpmaapdkhigac
