/- WALKS of Meet, Join, Less of sets. -/
import Derived.Test.YtkjnalbnhmpopaaSet6
import Derived.Deep.RegionLaw
import Derived.Handy
namespace Go.Proofs.Ytkjnalbnhmpopaa
open Go.RowKit Go.Maps Go.WideMaps Go.Sort

set_option maxRecDepth 100000 in
set_option maxHeartbeats 4000000 in
theorem thoseM_some (b : Nat) (p : ByteArray → Nat → Bool) (a : Option Addr) (c : Nat) (xs : List Itm) (w : World) (hx : ItemsAt w a xs) (hne : xs ≠ []) (hxl : xs.length ≤ 1500000) (hsum : (xs.map Itm.l).flatten.length ≤ 1500000) (SE : Int) (TL : List ByteArray) (HS : Hid (SE = setsE xs ∧ TL = if setsE xs = 0 then thoseL p (xs.map Itm.l) else []))
    (HA : Hid (∀ W m (n : Nat), Below w.heap.size w W → Calls Try.prog 64 #[.string m, .int .i64 n, .pointer (some ⟨b, 0, none⟩)] W fun e w' => e = .returned (.bool (p m n)) ∧ Below W.heap.size W w')) :
    Calls Try.prog 63 #[.slice a xs.length c, .func (.func 64) #[] #[.pointer (some ⟨b, 0, none⟩)]] w fun e w' => ∃ a' cap, e = .returned (.tuple #[.slice a' TL.length cap, .int .i64 SE]) ∧ (∀ W, (∀ g o u, w.heap.size ≤ g → w'.cell? ⟨g, o, none⟩ = some u → W.cell? ⟨g, o, none⟩ = some u) → TextsAt W a' TL) ∧ Below w.heap.size w w' := by
  have hmm := @run_makeMap Try.prog
  obtain ⟨g, o, rfl, hc⟩ := hx.resolve_left hne
  have HX := hide hc
  have hpos : 0 < xs.length := List.length_pos_iff.2 hne
  have hpos' : ¬ ((xs.length : Nat) : Int) = 0 := by omega
  clear hc hne hx
  go_enter Try.func63, Try.ntmps63
  go_wp2_with fail
  have hwW : Hid (Below w.heap.size w (w.alloc (.map #[] 0))) := (Below.refl _ w).alloc (Nat.le_refl _) _
  go_loopw [21] (fun i wr => ∃ (k : Nat) (D : DataW Unit), k ≤ xs.length ∧ i = .int .i64 k ∧ ThoseAt xs w k D wr) (fun i _ => xs.length - (intOf i).toNat)
  case atStart => exact ⟨0, .map [], by omega, rfl, ⟨fun x hx => by simp at hx, Counts.start, World.ownsMap_made _ _ _ _, hwW.out⟩⟩
  case round =>
    obtain ⟨k, D, hk, rfl, hTA⟩ := hrel
    have HG := hide hTA.g
    have HD := hide hTA.d
    have hown := hTA.o
    have hnx := hTA.b
    clear hTA
    have hzr := hnx.size
    by_cases hlt : k < xs.length
    · have hlt' : ((k : Nat) : Int) < ((xs.length : Nat) : Int) := by omega
      obtain ⟨a1, c1, a2, c2, a3, c3, ⟨e0, e1, e2, e3, e4⟩, hI⟩ := HX.out k hlt
      have HI := hide hI
      have HBC : Hid (∀ g o v, w.cell? ⟨g, o, none⟩ = some v → wr.cell? ⟨g, o, none⟩ = some v) := fun g o _ hv => (hnx.cell (p := ⟨g, o, none⟩) (World.block_lt_of_cell? _ _ hv)).trans hv
      have d0 := HBC.out _ _ _ e0
      have d1 := HBC.out _ _ _ e1
      have d2 := HBC.out _ _ _ e2
      have d3 := HBC.out _ _ _ e3
      have d4 := HBC.out _ _ _ e4
      have HC : Hid (∀ W, Below w.heap.size w W → Calls Try.prog 39 #[.agg #[.int .i64 xs[k].k, .string xs[k].t, .slice a1 xs[k].l.length c1, .slice a2 xs[k].p.length c2, .slice a3 xs[k].s.length c3], .int .i64 3] W fun e w' => e = .returned (.int .i64 (asI xs[k] 3)) ∧ Below W.heap.size W w') := fun W hW => common_any _ xs[k] 3 W (HI.out.below hW)
      have HTK : Hid (xs.take (k + 1) = xs.take k ++ [xs[k]]) := List.take_succ_eq_append_getElem hlt
      obtain ⟨X, hX⟩ : ∃ X, X = xs[k] := ⟨_, rfl⟩
      rw [← hX] at d0 d1 d2 d3 d4 HC HTK HI
      have HXX := hide hX
      clear hX e0 e1 e2 e3 e4 hI HBC
      have hXL : Hid (asI X 3 = 0 → Rises X.l ∧ X.l.length ≤ 24 ∧ (∀ t ∈ X.l, t.size ≤ 60)) := asI_set
      obtain ⟨hT1, hTn⟩ : TextsAt w a1 X.l ∧ X.l.length ≤ 281474976710656 := by
        obtain ⟨⟨b1, q1, b2, q2, b3, q3, e, t1, -, -⟩, -, -, -, -, hl1, -, -⟩ := HI.out
        injection e with e
        have e' := congrArg (fun z => z[2]?) e
        simp at e'
        obtain ⟨rfl, _⟩ := e'
        exact ⟨t1, hl1⟩
      have HT1 := hide hT1
      clear hT1 HI
      generalize hXl : X.l = L at *
      have HXl := hide hXl
      clear hXl
      obtain ⟨E, hE⟩ : ∃ E, E = asI X 3 := ⟨_, rfl⟩
      rw [← hE] at HC hXL
      have HE := hide hE
      clear hE
      go_wp2_with fail
      refine (HC.out _ (hnx.alloc hnx.size _)).mono ?_
      rintro e w1 ⟨rfl, hb1⟩
      have hB1 : Below w.heap.size w w1 := (hnx.alloc hnx.size _).trans (hb1.mono (by simp; omega))
      have hg1 : wr.grownBy w1 none := (World.grownBy_alloc wr _ none).trans ⟨hb1.os, hb1.tape, hb1.output, hb1.size, fun j hj _ => hb1.block j hj⟩
      have hown1 := hown.kept hg1 (by simp)
      have bx2 : w1.cell? ⟨wr.heap.size, 2, none⟩ = some (.slice a1 L.length c1) := (hb1.cell (p := ⟨wr.heap.size, 2, none⟩) (by simp)).trans (by simp [go_sem])
      clear hown hg1 hb1 d0 d1 d2 d3 d4 HC hwW hmm
      by_cases h0 : E = 0
      · obtain ⟨hri, h24, h60⟩ := hXL.out h0
        have HZ : Hid (∀ t ∈ L, t.size ≤ maxLen) := fun t ht => by have := h60 t ht; unfold maxLen; omega
        have HE0 : Hid (asI X 3 = 0) := HE.out.symm.trans h0
        subst h0
        clear hXL h60 HE
        have hpl : ((xs.take k).map Itm.l).flatten.length + L.length ≤ 1500000 := by
          have h1 : ((xs.take (k + 1)).map Itm.l).flatten.length ≤ (xs.map Itm.l).flatten.length := by
            have e : xs.map Itm.l = (xs.take (k + 1)).map Itm.l ++ (xs.drop (k + 1)).map Itm.l := by rw [← List.map_append, List.take_append_drop]
            rw [e, List.flatten_append, List.length_append]
            omega
          rw [HTK.out, List.map_append, List.flatten_append, List.length_append] at h1
          have e9 : (([X].map Itm.l).flatten).length = L.length := by simp [HXl.out]
          rw [e9] at h1
          omega
        generalize hpre : ((xs.take k).map Itm.l).flatten = pre at *
        have HPRE := hide hpre
        clear hpre
        go_wp2_with fail
        go_loopw [33] (fun i wr => ∃ (m : Nat) (D : DataW Unit), m ≤ L.length ∧ i = .int .i64 m ∧ Hid (Counts D (pre ++ L.take m)) ∧ wr.ownsMap Try.prog 9 (plainElem Try.prog 3) w.heap.size (pre.length + m) D ∧ Below w.heap.size w wr) (fun i _ => L.length - (intOf i).toNat)
        case atStart => exact ⟨0, D, by omega, rfl, by rw [List.take_zero, List.append_nil]; exact HD.out, hown1, hB1⟩
        case round =>
          clear hown1 bx2 HD D
          obtain ⟨m, D, hm, rfl, HD, hown, hnx2⟩ := hrel
          by_cases hmt : m < L.length
          · have hmt' : ((m : Nat) : Int) < ((L.length : Nat) : Int) := by omega
            obtain ⟨g1, o1, rfl, hcs⟩ : ∃ g o, a1 = some ⟨g, o, none⟩ ∧ ∀ i (h : i < L.length), w.cell? ⟨g, o + i, none⟩ = some (.string L[i]) := by
              rcases HT1.out with h | h
              · subst h; simp at hmt
              · exact h
            have d0 : wr.cell? ⟨g1, o1 + m, none⟩ = some (.string L[m]) := (hnx2.cell (p := ⟨g1, o1 + m, none⟩) (World.block_lt_of_cell? _ _ (hcs m hmt))).trans (hcs m hmt)
            have HTM : Hid (pre ++ L.take (m + 1) = (pre ++ L.take m) ++ [L[m]]) := by rw [Hid, List.take_succ_eq_append_getElem hmt, List.append_assoc]
            have hsz : L[m].size ≤ maxLen := HZ.out _ (List.getElem_mem _)
            obtain ⟨s, hs⟩ : ∃ s, s = L[m] := ⟨_, rfl⟩
            rw [← hs] at d0 HTM hsz
            have hkey := keyS hsz
            clear hs hcs
            go_wp2_with (first
              | (at_lookup; refine wpList_lookup_own_int _ rfl _ _ 111 rfl 9 3 .i64 lawS Try.underlying111 Try.underlying3 (zeroI _) w.heap.size (pre.length + m) D rfl hown _ _ rfl hkey ?_; intro cc hat hwc)
              | (at_mapUpdate; refine wpList_mapUpdate_own _ rfl _ _ _ 111 rfl 9 3 lawS Try.underlying111 _ w.heap.size (pre.length + m) D rfl hown (by unfold maxLen; omega) _ _ _ rfl rfl hkey _ [] (plainElem_int Try.underlying3 (wrap64_wf _)) ?_))
            intro w5 hown5 hg5
            have B5 := hnx2.grown hg5 hnx2.size (fun j hj => by cases hj; exact Nat.le_refl _)
            have hcc : cc = (((bytesL (pre ++ L.take m)).count s.data.toList : Nat) : Int) := by
              have h1 := HD.out.at_ s.data.toList
              rw [h1] at hat
              injection hat with hat
              injection hat with _ hat
              exact hat.symm
            have hcl : (bytesL (pre ++ L.take m)).count s.data.toList ≤ 1500000 := by
              have h1 := List.count_le_length (a := s.data.toList) (l := bytesL (pre ++ L.take m))
              rw [bytesL_len, List.length_append, List.length_take] at h1
              omega
            have HC5 : Hid (Counts (D.put (.string s.data.toList) (.lit (.int .i64 (wrap64 (cc + 1))))) (pre ++ L.take (m + 1))) := by
              rw [HTM.out]
              have e : wrap64 (cc + 1) = (((bytesL (pre ++ L.take m)).count s.data.toList : Nat) : Int) + 1 := by rw [hcc]; unfold wrap64; omega
              rw [e]
              exact HD.out.step hown.isMap s
            clear hown hat hwc hcc hcl d0 hkey hg5
            go_wp2_with fail
            go_roundw
            case rel => exact ⟨m + 1, _, by omega, by go_num, HC5, hown5, B5⟩
            case measure => simp [intOf]; omega
          · have hge : ¬ ((m : Nat) : Int) < ((L.length : Nat) : Int) := by omega
            obtain rfl : m = L.length := by omega
            go_wp2_with fail
            have e2 : ((xs.take (k + 1)).map Itm.l).flatten = pre ++ L := by
              rw [HTK.out, List.map_append, List.flatten_append, HPRE.out]
              simp [HXl.out]
            refine ⟨⟨_, _, _, _, _, .int .i64 (((k : Nat) : Int) + 1), ⟨k + 1, by omega, by simp, D, ?_, ?_, ?_, hnx2⟩, rfl, rfl, rfl, rfl, rfl, rfl⟩, by simp [intOf]; omega⟩
            · rw [HTK.out]
              intro x hx
              rcases List.mem_append.1 hx with hx | hx
              · exact HG.out x hx
              · rw [List.mem_singleton.1 hx]; exact HE0.out
            · rw [e2]
              have := HD.out
              rw [List.take_length] at this
              exact this
            · rw [e2, List.length_append]
              exact hown
      · have h0' : (E == 0) = false := by rw [beq_eq_false_iff_ne]; exact h0
        go_wp2_with fail
        have hse : setsE xs = E := by
          have h1 := setsE_at hlt HG.out (by rw [← HXX.out, ← HE.out]; exact h0)
          rw [h1, ← HXX.out, ← HE.out]
        refine bodyPost_ret (v := .tuple #[.slice none 0 0, .int .i64 E]) (by simp [results, Try.results63, go_sem]) rfl ?_
        have e1 : SE = E := HS.out.1.trans hse
        have e2 : TL = [] := by rw [HS.out.2, hse, if_neg h0]
        rw [e1, e2]
        exact ⟨none, 0, rfl, fun W _ => .inl rfl, hB1⟩
    · have hge : ¬ ((k : Nat) : Int) < ((xs.length : Nat) : Int) := by omega
      obtain rfl : k = xs.length := by omega
      rw [List.take_length] at HG HD hown
      have hSE : SE = 0 := HS.out.1.trans (setsE_all HG.out)
      have HTL : Hid (TL = thoseL p (xs.map Itm.l)) := by rw [Hid, HS.out.2, if_pos (setsE_all HG.out)]
      have HR : Hid (∀ l ∈ xs.map Itm.l, Rises l) := fun l hl => by
        obtain ⟨y, hy, rfl⟩ := List.mem_map.1 hl
        exact (asI_set (HG.out y hy)).1
      have HZL : Hid (∀ l ∈ xs.map Itm.l, ∀ t ∈ l, t.size ≤ 60) := fun l hl => by
        obtain ⟨y, hy, rfl⟩ := List.mem_map.1 hl
        exact (asI_set (HG.out y hy)).2.2
      subst hSE
      clear HS HG HX hwW hmm
      generalize hls : xs.map Itm.l = ls at *
      clear hls
      obtain ⟨i0, hi, hz0, hz1, hz2⟩ := info_parts infoStr
      have hsD : Maps.size D ≤ 1500000 := Nat.le_trans hown.size_le hsum
      have hmbl := hown.lt
      generalize ls.flatten.length = NN at *
      obtain ⟨wq, hwq⟩ : ∃ wq, wq = wr := ⟨wr, rfl⟩
      subst hwq
      go_wp2_with (at_range; refine wpList_range_own _ rfl _ 111 rfl 9 3 lawS Try.underlying111 _ w.heap.size NN D rfl hown ?_; intro w0 hrg0 hg0 hs0)
      have B0 : Below w.heap.size w w0 := hnx.grown hg0 hnx.size (fun j hj => by cases hj)
      clear hg0 hs0
      go_loopw [12] (fun v wr => ∃ left cnt ss, RngAt p ls w wq.heap.size NN D left cnt ss v wr) (fun _ wr => wr.rangeLeft w.heap.size wq.heap.size)
      case atStart => exact ⟨_, _, [], ⟨hrg0, by simp, World.ownsRow_nil _ _ _ _, Collected.start D, B0⟩⟩
      case round =>
        clear hrg0 B0
        obtain ⟨left, cnt, ss, hR⟩ := hrel
        have hrg := hR.rg
        have HRR := hide hR
        clear hR
        go_wp2_with (at_next; refine wpList_next_ranges _ rfl _ rfl 9 lawS (plainElem Try.prog 3) encStr (Value.int .i64) (fun key kl hk => by obtain ⟨x, hx, _⟩ := Maps.keyOf_str Try.underlying9 hk; exact ⟨x, hx⟩) (fun v y hv => by obtain ⟨c, rfl, _⟩ := plainElem_int_inv Try.underlying3 hv; exact ⟨c, rfl⟩) w.heap.size wq.heap.size NN _ _ _ rfl hrg ?_ ?_)
        · intro hc0 hl0
          obtain ⟨av, cv, hav⟩ := slice_own HRR.out.rw
          subst hav
          have hal := askL_len p ls ss
          have hct := HRR.out.ct
          have HSO := hide (sort_any av cv (askL p ls ss) w wr HRR.out.bl (fun hne => by
            obtain ⟨gg, cc, e, _, _⟩ := HRR.out.rw.form (List.length_pos_iff.2 hne)
            injection e with e1 e2 e3
            subst e1
            exact ⟨gg, rfl, own_low HRR.out.rw (Nat.le_of_lt hmbl)⟩) (by omega))
          have HEND : Hid (sortL (askL p ls ss) = TL) := by
            rw [Hid, HTL.out]
            refine askL_end HRR.out.cl.1 (fun x => ?_)
            rw [HRR.out.cl.2 x, hl0, ← HD.out.has_]
            simp
          have hTll : TL.length = (askL p ls ss).length := by rw [← HEND.out, sortL_len]
          clear hrg HRR
          generalize askL p ls ss = ML at *
          go_wp2_with fail
          refine HSO.out.mono ?_
          rintro e w4 ⟨rfl, hb4, hr4⟩
          have HR4 := hide hr4
          clear hr4 HSO
          go_wp2_with fail
          refine bodyPost_ret (v := .tuple #[.slice av ML.length cv, .int .i64 0]) (by simp [results, Try.results63, go_sem]) rfl ⟨av, cv, by rw [hTll], fun W hW => ?_, hb4⟩
          by_cases hML : ML = []
          · refine .inl (List.eq_nil_of_length_eq_zero ?_)
            rw [hTll, hML]
            rfl
          · obtain ⟨gg, rfl, ho⟩ := HR4.out hML
            rw [HEND.out, ← hTll] at ho
            exact texts_from ho hW
        · intro x c kl yd yp w2 cnt2 hkey hlk hv hat hrg2 hlt2 hg2 hs2 hen
          obtain ⟨x', ex, rfl, hxl⟩ := Maps.keyOf_str Try.underlying9 hkey
          obtain rfl : x = x' := encStr_inj ex
          have hcn : c = ((cntL ls ⟨x.toArray⟩ : Nat) : Int) := by
            obtain ⟨a, h1, h2, _⟩ := plainElem_int_inv Try.underlying3 hv
            injection h1 with _ h1
            have h3 := hat (.lit (.int .i64 0))
            rw [HD.out.at_ x] at h3
            have h4 := count_flat ls ⟨x.toArray⟩ HR.out
            rw [show (ByteArray.mk x.toArray).data.toList = x by simp] at h4
            rw [h4] at h3
            injection h2 with h2 _
            rw [h2] at h3
            injection h3 with h3
            injection h3 with _ h3
            rw [h1, ← h3]
          obtain ⟨s, hs⟩ : ∃ s : ByteArray, s = ⟨x.toArray⟩ := ⟨_, rfl⟩
          have HXS := hide hs
          have exs : (encStr x : Value) = .string s := by rw [hs]
          rw [← hs] at hcn
          obtain ⟨n, hn⟩ : ∃ n, n = cntL ls s := ⟨_, rfl⟩
          rw [← hn] at hcn
          have HN := hide hn
          subst hcn
          have hrow2 := HRR.out.rw.kept hg2 (Or.inr (row_ne_iter HRR.out.rw hrg).symm)
          have hbl := HRR.out.bl
          have hzb := hbl.size
          have hrl := hrg.lt
          have hB2 : Below w.heap.size w w2 := hbl.grown hg2 hbl.size (fun j hj => by cases hj; exact Nat.le_of_lt hmbl)
          have hzz2 := hg2.size
          have hct := HRR.out.ct
          have hal := askL_len p ls ss
          have HCS := hide (HRR.out.cl.step hlk hat)
          have hleft := hrg.left_eq
          have HLE := hide hleft
          rw [exs] at hen
          clear hs hn hs2 hrg HRR hkey hv hat ex hg2 hlk hleft hbl
          rw [exs]
          clear exs hxl
          go_wp2_with fail
          refine (HA.out w2 s n hB2).mono ?_
          rintro e w3 ⟨rfl, hb3⟩
          have hrg3 := hrg2.kept (grown_none hb3) (by simp) (by simp)
          have hrow3 := (Kept.of_below hb3 (fun _ => False)).owns hrow2 (fun _ _ e => e)
          have hB3 : Below w.heap.size w w3 := hB2.trans (hb3.mono hB2.size)
          have hz3 := hb3.size
          clear hrg2 hrow2 hb3 hB2
          cases hp : p s n with
          | true =>
            have HP : Hid (p s (cntL ls s) = true) := by rw [Hid, ← HN.out]; exact hp
            clear hp
            go_wp2_with (at_builtin; refine wpList_append_own _ rfl _ _ 28 rfl wq.heap.size 9 i0 (.string ⟨#[]⟩) 1 16 Try.underlying28 hi hz0 hz1 hz2 rfl (by decide) _ _ _ rfl (hrow3.alloc _) ⟨w3.heap.size, 0, none⟩ 1 1 [.string s] rfl rfl ?c1 ?c2 ?c3 ?c4 ?c5 ?_)
            case c1 =>
              intro j u hj
              match j, hj with
              | 0, hj => simp at hj; subst hj; simp [Addr.add]
            case c2 => intro u hu; simp at hu; subst hu; rfl
            case c3 => unfold maxLen; omega
            case c4 => omega
            case c5 => simp; omega
            intro v' w4 hown4 hg4 _
            have hrg4 := (hrg3.alloc (.cells #[.string s] 9)).kept hg4 (row_ne_low hrow3 hmbl) (row_ne_iter hrow3 hrg3)
            have hB4 : Below w.heap.size w w4 := (hB3.alloc hB3.size _).grown hg4 (by simp; omega) (fun j hj => by have := (hrow3.lt j hj).1; omega)
            have HR4 : Hid (RngAt p ls w wq.heap.size NN D (fun z => left z && !z.sameKey (.string x)) cnt2 (ss ++ [x]) v' w4) := ⟨hrg4, by rw [List.length_append]; simp; omega, by rw [askL_yes HXS.out HP.out, List.length_append]; simpa [strs] using hown4, HCS.out, hB4⟩
            have hle4 := hrg4.left_eq
            clear hrow3 hrg3 hown4 hg4 hB3 hrg4 hB4
            go_wp2_with fail
            go_roundw
            case rel => exact ⟨_, cnt2, ss ++ [x], HR4.out⟩
            case measure => rw [hle4, HLE.out]; exact hlt2
          | false =>
            have HP : Hid (p s (cntL ls s) = false) := by rw [Hid, ← HN.out]; exact hp
            clear hp
            have hrow4 := hrow3
            rw [← askL_no (ss := ss) HXS.out HP.out] at hrow4
            have HR4 := hide (RngAt.mk (ss := ss ++ [x]) hrg3 (by rw [List.length_append]; simp; omega) hrow4 HCS.out hB3)
            clear hrow4
            have hle4 := hrg3.left_eq
            clear hrow3 hrg3 hB3
            go_wp2_with fail
            go_roundw
            case rel => exact ⟨_, cnt2, ss ++ [x], HR4.out⟩
            case measure => rw [hle4, HLE.out]; exact hlt2
set_option maxRecDepth 100000 in
set_option maxHeartbeats 4000000 in
theorem thoseJ_some (p : ByteArray → Nat → Bool) (a : Option Addr) (c : Nat) (xs : List Itm) (w : World) (hx : ItemsAt w a xs) (hne : xs ≠ []) (hxl : xs.length ≤ 1500000) (hsum : (xs.map Itm.l).flatten.length ≤ 1500000) (SE : Int) (TL : List ByteArray) (HS : Hid (SE = setsE xs ∧ TL = if setsE xs = 0 then thoseL p (xs.map Itm.l) else []))
    (HA : Hid (∀ W m (n : Nat), Below w.heap.size w W → Calls Try.prog 65 #[.string m, .int .i64 n] W fun e w' => e = .returned (.bool (p m n)) ∧ Below W.heap.size W w')) :
    Calls Try.prog 63 #[.slice a xs.length c, .func (.func 65) #[] #[]] w fun e w' => ∃ a' cap, e = .returned (.tuple #[.slice a' TL.length cap, .int .i64 SE]) ∧ (∀ W, (∀ g o u, w.heap.size ≤ g → w'.cell? ⟨g, o, none⟩ = some u → W.cell? ⟨g, o, none⟩ = some u) → TextsAt W a' TL) ∧ Below w.heap.size w w' := by
  have hmm := @run_makeMap Try.prog
  obtain ⟨g, o, rfl, hc⟩ := hx.resolve_left hne
  have HX := hide hc
  have hpos : 0 < xs.length := List.length_pos_iff.2 hne
  have hpos' : ¬ ((xs.length : Nat) : Int) = 0 := by omega
  clear hc hne hx
  go_enter Try.func63, Try.ntmps63
  go_wp2_with fail
  have hwW : Hid (Below w.heap.size w (w.alloc (.map #[] 0))) := (Below.refl _ w).alloc (Nat.le_refl _) _
  go_loopw [21] (fun i wr => ∃ (k : Nat) (D : DataW Unit), k ≤ xs.length ∧ i = .int .i64 k ∧ ThoseAt xs w k D wr) (fun i _ => xs.length - (intOf i).toNat)
  case atStart => exact ⟨0, .map [], by omega, rfl, ⟨fun x hx => by simp at hx, Counts.start, World.ownsMap_made _ _ _ _, hwW.out⟩⟩
  case round =>
    obtain ⟨k, D, hk, rfl, hTA⟩ := hrel
    have HG := hide hTA.g
    have HD := hide hTA.d
    have hown := hTA.o
    have hnx := hTA.b
    clear hTA
    have hzr := hnx.size
    by_cases hlt : k < xs.length
    · have hlt' : ((k : Nat) : Int) < ((xs.length : Nat) : Int) := by omega
      obtain ⟨a1, c1, a2, c2, a3, c3, ⟨e0, e1, e2, e3, e4⟩, hI⟩ := HX.out k hlt
      have HI := hide hI
      have HBC : Hid (∀ g o v, w.cell? ⟨g, o, none⟩ = some v → wr.cell? ⟨g, o, none⟩ = some v) := fun g o _ hv => (hnx.cell (p := ⟨g, o, none⟩) (World.block_lt_of_cell? _ _ hv)).trans hv
      have d0 := HBC.out _ _ _ e0
      have d1 := HBC.out _ _ _ e1
      have d2 := HBC.out _ _ _ e2
      have d3 := HBC.out _ _ _ e3
      have d4 := HBC.out _ _ _ e4
      have HC : Hid (∀ W, Below w.heap.size w W → Calls Try.prog 39 #[.agg #[.int .i64 xs[k].k, .string xs[k].t, .slice a1 xs[k].l.length c1, .slice a2 xs[k].p.length c2, .slice a3 xs[k].s.length c3], .int .i64 3] W fun e w' => e = .returned (.int .i64 (asI xs[k] 3)) ∧ Below W.heap.size W w') := fun W hW => common_any _ xs[k] 3 W (HI.out.below hW)
      have HTK : Hid (xs.take (k + 1) = xs.take k ++ [xs[k]]) := List.take_succ_eq_append_getElem hlt
      obtain ⟨X, hX⟩ : ∃ X, X = xs[k] := ⟨_, rfl⟩
      rw [← hX] at d0 d1 d2 d3 d4 HC HTK HI
      have HXX := hide hX
      clear hX e0 e1 e2 e3 e4 hI HBC
      have hXL : Hid (asI X 3 = 0 → Rises X.l ∧ X.l.length ≤ 24 ∧ (∀ t ∈ X.l, t.size ≤ 60)) := asI_set
      obtain ⟨hT1, hTn⟩ : TextsAt w a1 X.l ∧ X.l.length ≤ 281474976710656 := by
        obtain ⟨⟨b1, q1, b2, q2, b3, q3, e, t1, -, -⟩, -, -, -, -, hl1, -, -⟩ := HI.out
        injection e with e
        have e' := congrArg (fun z => z[2]?) e
        simp at e'
        obtain ⟨rfl, _⟩ := e'
        exact ⟨t1, hl1⟩
      have HT1 := hide hT1
      clear hT1 HI
      generalize hXl : X.l = L at *
      have HXl := hide hXl
      clear hXl
      obtain ⟨E, hE⟩ : ∃ E, E = asI X 3 := ⟨_, rfl⟩
      rw [← hE] at HC hXL
      have HE := hide hE
      clear hE
      go_wp2_with fail
      refine (HC.out _ (hnx.alloc hnx.size _)).mono ?_
      rintro e w1 ⟨rfl, hb1⟩
      have hB1 : Below w.heap.size w w1 := (hnx.alloc hnx.size _).trans (hb1.mono (by simp; omega))
      have hg1 : wr.grownBy w1 none := (World.grownBy_alloc wr _ none).trans ⟨hb1.os, hb1.tape, hb1.output, hb1.size, fun j hj _ => hb1.block j hj⟩
      have hown1 := hown.kept hg1 (by simp)
      have bx2 : w1.cell? ⟨wr.heap.size, 2, none⟩ = some (.slice a1 L.length c1) := (hb1.cell (p := ⟨wr.heap.size, 2, none⟩) (by simp)).trans (by simp [go_sem])
      clear hown hg1 hb1 d0 d1 d2 d3 d4 HC hwW hmm
      by_cases h0 : E = 0
      · obtain ⟨hri, h24, h60⟩ := hXL.out h0
        have HZ : Hid (∀ t ∈ L, t.size ≤ maxLen) := fun t ht => by have := h60 t ht; unfold maxLen; omega
        have HE0 : Hid (asI X 3 = 0) := HE.out.symm.trans h0
        subst h0
        clear hXL h60 HE
        have hpl : ((xs.take k).map Itm.l).flatten.length + L.length ≤ 1500000 := by
          have h1 : ((xs.take (k + 1)).map Itm.l).flatten.length ≤ (xs.map Itm.l).flatten.length := by
            have e : xs.map Itm.l = (xs.take (k + 1)).map Itm.l ++ (xs.drop (k + 1)).map Itm.l := by rw [← List.map_append, List.take_append_drop]
            rw [e, List.flatten_append, List.length_append]
            omega
          rw [HTK.out, List.map_append, List.flatten_append, List.length_append] at h1
          have e9 : (([X].map Itm.l).flatten).length = L.length := by simp [HXl.out]
          rw [e9] at h1
          omega
        generalize hpre : ((xs.take k).map Itm.l).flatten = pre at *
        have HPRE := hide hpre
        clear hpre
        go_wp2_with fail
        go_loopw [33] (fun i wr => ∃ (m : Nat) (D : DataW Unit), m ≤ L.length ∧ i = .int .i64 m ∧ Hid (Counts D (pre ++ L.take m)) ∧ wr.ownsMap Try.prog 9 (plainElem Try.prog 3) w.heap.size (pre.length + m) D ∧ Below w.heap.size w wr) (fun i _ => L.length - (intOf i).toNat)
        case atStart => exact ⟨0, D, by omega, rfl, by rw [List.take_zero, List.append_nil]; exact HD.out, hown1, hB1⟩
        case round =>
          clear hown1 bx2 HD D
          obtain ⟨m, D, hm, rfl, HD, hown, hnx2⟩ := hrel
          by_cases hmt : m < L.length
          · have hmt' : ((m : Nat) : Int) < ((L.length : Nat) : Int) := by omega
            obtain ⟨g1, o1, rfl, hcs⟩ : ∃ g o, a1 = some ⟨g, o, none⟩ ∧ ∀ i (h : i < L.length), w.cell? ⟨g, o + i, none⟩ = some (.string L[i]) := by
              rcases HT1.out with h | h
              · subst h; simp at hmt
              · exact h
            have d0 : wr.cell? ⟨g1, o1 + m, none⟩ = some (.string L[m]) := (hnx2.cell (p := ⟨g1, o1 + m, none⟩) (World.block_lt_of_cell? _ _ (hcs m hmt))).trans (hcs m hmt)
            have HTM : Hid (pre ++ L.take (m + 1) = (pre ++ L.take m) ++ [L[m]]) := by rw [Hid, List.take_succ_eq_append_getElem hmt, List.append_assoc]
            have hsz : L[m].size ≤ maxLen := HZ.out _ (List.getElem_mem _)
            obtain ⟨s, hs⟩ : ∃ s, s = L[m] := ⟨_, rfl⟩
            rw [← hs] at d0 HTM hsz
            have hkey := keyS hsz
            clear hs hcs
            go_wp2_with (first
              | (at_lookup; refine wpList_lookup_own_int _ rfl _ _ 111 rfl 9 3 .i64 lawS Try.underlying111 Try.underlying3 (zeroI _) w.heap.size (pre.length + m) D rfl hown _ _ rfl hkey ?_; intro cc hat hwc)
              | (at_mapUpdate; refine wpList_mapUpdate_own _ rfl _ _ _ 111 rfl 9 3 lawS Try.underlying111 _ w.heap.size (pre.length + m) D rfl hown (by unfold maxLen; omega) _ _ _ rfl rfl hkey _ [] (plainElem_int Try.underlying3 (wrap64_wf _)) ?_))
            intro w5 hown5 hg5
            have B5 := hnx2.grown hg5 hnx2.size (fun j hj => by cases hj; exact Nat.le_refl _)
            have hcc : cc = (((bytesL (pre ++ L.take m)).count s.data.toList : Nat) : Int) := by
              have h1 := HD.out.at_ s.data.toList
              rw [h1] at hat
              injection hat with hat
              injection hat with _ hat
              exact hat.symm
            have hcl : (bytesL (pre ++ L.take m)).count s.data.toList ≤ 1500000 := by
              have h1 := List.count_le_length (a := s.data.toList) (l := bytesL (pre ++ L.take m))
              rw [bytesL_len, List.length_append, List.length_take] at h1
              omega
            have HC5 : Hid (Counts (D.put (.string s.data.toList) (.lit (.int .i64 (wrap64 (cc + 1))))) (pre ++ L.take (m + 1))) := by
              rw [HTM.out]
              have e : wrap64 (cc + 1) = (((bytesL (pre ++ L.take m)).count s.data.toList : Nat) : Int) + 1 := by rw [hcc]; unfold wrap64; omega
              rw [e]
              exact HD.out.step hown.isMap s
            clear hown hat hwc hcc hcl d0 hkey hg5
            go_wp2_with fail
            go_roundw
            case rel => exact ⟨m + 1, _, by omega, by go_num, HC5, hown5, B5⟩
            case measure => simp [intOf]; omega
          · have hge : ¬ ((m : Nat) : Int) < ((L.length : Nat) : Int) := by omega
            obtain rfl : m = L.length := by omega
            go_wp2_with fail
            have e2 : ((xs.take (k + 1)).map Itm.l).flatten = pre ++ L := by
              rw [HTK.out, List.map_append, List.flatten_append, HPRE.out]
              simp [HXl.out]
            refine ⟨⟨_, _, _, _, _, .int .i64 (((k : Nat) : Int) + 1), ⟨k + 1, by omega, by simp, D, ?_, ?_, ?_, hnx2⟩, rfl, rfl, rfl, rfl, rfl, rfl⟩, by simp [intOf]; omega⟩
            · rw [HTK.out]
              intro x hx
              rcases List.mem_append.1 hx with hx | hx
              · exact HG.out x hx
              · rw [List.mem_singleton.1 hx]; exact HE0.out
            · rw [e2]
              have := HD.out
              rw [List.take_length] at this
              exact this
            · rw [e2, List.length_append]
              exact hown
      · have h0' : (E == 0) = false := by rw [beq_eq_false_iff_ne]; exact h0
        go_wp2_with fail
        have hse : setsE xs = E := by
          have h1 := setsE_at hlt HG.out (by rw [← HXX.out, ← HE.out]; exact h0)
          rw [h1, ← HXX.out, ← HE.out]
        refine bodyPost_ret (v := .tuple #[.slice none 0 0, .int .i64 E]) (by simp [results, Try.results63, go_sem]) rfl ?_
        have e1 : SE = E := HS.out.1.trans hse
        have e2 : TL = [] := by rw [HS.out.2, hse, if_neg h0]
        rw [e1, e2]
        exact ⟨none, 0, rfl, fun W _ => .inl rfl, hB1⟩
    · have hge : ¬ ((k : Nat) : Int) < ((xs.length : Nat) : Int) := by omega
      obtain rfl : k = xs.length := by omega
      rw [List.take_length] at HG HD hown
      have hSE : SE = 0 := HS.out.1.trans (setsE_all HG.out)
      have HTL : Hid (TL = thoseL p (xs.map Itm.l)) := by rw [Hid, HS.out.2, if_pos (setsE_all HG.out)]
      have HR : Hid (∀ l ∈ xs.map Itm.l, Rises l) := fun l hl => by
        obtain ⟨y, hy, rfl⟩ := List.mem_map.1 hl
        exact (asI_set (HG.out y hy)).1
      have HZL : Hid (∀ l ∈ xs.map Itm.l, ∀ t ∈ l, t.size ≤ 60) := fun l hl => by
        obtain ⟨y, hy, rfl⟩ := List.mem_map.1 hl
        exact (asI_set (HG.out y hy)).2.2
      subst hSE
      clear HS HG HX hwW hmm
      generalize hls : xs.map Itm.l = ls at *
      clear hls
      obtain ⟨i0, hi, hz0, hz1, hz2⟩ := info_parts infoStr
      have hsD : Maps.size D ≤ 1500000 := Nat.le_trans hown.size_le hsum
      have hmbl := hown.lt
      generalize ls.flatten.length = NN at *
      obtain ⟨wq, hwq⟩ : ∃ wq, wq = wr := ⟨wr, rfl⟩
      subst hwq
      go_wp2_with (at_range; refine wpList_range_own _ rfl _ 111 rfl 9 3 lawS Try.underlying111 _ w.heap.size NN D rfl hown ?_; intro w0 hrg0 hg0 hs0)
      have B0 : Below w.heap.size w w0 := hnx.grown hg0 hnx.size (fun j hj => by cases hj)
      clear hg0 hs0
      go_loopw [12] (fun v wr => ∃ left cnt ss, RngAt p ls w wq.heap.size NN D left cnt ss v wr) (fun _ wr => wr.rangeLeft w.heap.size wq.heap.size)
      case atStart => exact ⟨_, _, [], ⟨hrg0, by simp, World.ownsRow_nil _ _ _ _, Collected.start D, B0⟩⟩
      case round =>
        clear hrg0 B0
        obtain ⟨left, cnt, ss, hR⟩ := hrel
        have hrg := hR.rg
        have HRR := hide hR
        clear hR
        go_wp2_with (at_next; refine wpList_next_ranges _ rfl _ rfl 9 lawS (plainElem Try.prog 3) encStr (Value.int .i64) (fun key kl hk => by obtain ⟨x, hx, _⟩ := Maps.keyOf_str Try.underlying9 hk; exact ⟨x, hx⟩) (fun v y hv => by obtain ⟨c, rfl, _⟩ := plainElem_int_inv Try.underlying3 hv; exact ⟨c, rfl⟩) w.heap.size wq.heap.size NN _ _ _ rfl hrg ?_ ?_)
        · intro hc0 hl0
          obtain ⟨av, cv, hav⟩ := slice_own HRR.out.rw
          subst hav
          have hal := askL_len p ls ss
          have hct := HRR.out.ct
          have HSO := hide (sort_any av cv (askL p ls ss) w wr HRR.out.bl (fun hne => by
            obtain ⟨gg, cc, e, _, _⟩ := HRR.out.rw.form (List.length_pos_iff.2 hne)
            injection e with e1 e2 e3
            subst e1
            exact ⟨gg, rfl, own_low HRR.out.rw (Nat.le_of_lt hmbl)⟩) (by omega))
          have HEND : Hid (sortL (askL p ls ss) = TL) := by
            rw [Hid, HTL.out]
            refine askL_end HRR.out.cl.1 (fun x => ?_)
            rw [HRR.out.cl.2 x, hl0, ← HD.out.has_]
            simp
          have hTll : TL.length = (askL p ls ss).length := by rw [← HEND.out, sortL_len]
          clear hrg HRR
          generalize askL p ls ss = ML at *
          go_wp2_with fail
          refine HSO.out.mono ?_
          rintro e w4 ⟨rfl, hb4, hr4⟩
          have HR4 := hide hr4
          clear hr4 HSO
          go_wp2_with fail
          refine bodyPost_ret (v := .tuple #[.slice av ML.length cv, .int .i64 0]) (by simp [results, Try.results63, go_sem]) rfl ⟨av, cv, by rw [hTll], fun W hW => ?_, hb4⟩
          by_cases hML : ML = []
          · refine .inl (List.eq_nil_of_length_eq_zero ?_)
            rw [hTll, hML]
            rfl
          · obtain ⟨gg, rfl, ho⟩ := HR4.out hML
            rw [HEND.out, ← hTll] at ho
            exact texts_from ho hW
        · intro x c kl yd yp w2 cnt2 hkey hlk hv hat hrg2 hlt2 hg2 hs2 hen
          obtain ⟨x', ex, rfl, hxl⟩ := Maps.keyOf_str Try.underlying9 hkey
          obtain rfl : x = x' := encStr_inj ex
          have hcn : c = ((cntL ls ⟨x.toArray⟩ : Nat) : Int) := by
            obtain ⟨a, h1, h2, _⟩ := plainElem_int_inv Try.underlying3 hv
            injection h1 with _ h1
            have h3 := hat (.lit (.int .i64 0))
            rw [HD.out.at_ x] at h3
            have h4 := count_flat ls ⟨x.toArray⟩ HR.out
            rw [show (ByteArray.mk x.toArray).data.toList = x by simp] at h4
            rw [h4] at h3
            injection h2 with h2 _
            rw [h2] at h3
            injection h3 with h3
            injection h3 with _ h3
            rw [h1, ← h3]
          obtain ⟨s, hs⟩ : ∃ s : ByteArray, s = ⟨x.toArray⟩ := ⟨_, rfl⟩
          have HXS := hide hs
          have exs : (encStr x : Value) = .string s := by rw [hs]
          rw [← hs] at hcn
          obtain ⟨n, hn⟩ : ∃ n, n = cntL ls s := ⟨_, rfl⟩
          rw [← hn] at hcn
          have HN := hide hn
          subst hcn
          have hrow2 := HRR.out.rw.kept hg2 (Or.inr (row_ne_iter HRR.out.rw hrg).symm)
          have hbl := HRR.out.bl
          have hzb := hbl.size
          have hrl := hrg.lt
          have hB2 : Below w.heap.size w w2 := hbl.grown hg2 hbl.size (fun j hj => by cases hj; exact Nat.le_of_lt hmbl)
          have hzz2 := hg2.size
          have hct := HRR.out.ct
          have hal := askL_len p ls ss
          have HCS := hide (HRR.out.cl.step hlk hat)
          have hleft := hrg.left_eq
          have HLE := hide hleft
          rw [exs] at hen
          clear hs hn hs2 hrg HRR hkey hv hat ex hg2 hlk hleft hbl
          rw [exs]
          clear exs hxl
          go_wp2_with fail
          refine (HA.out w2 s n hB2).mono ?_
          rintro e w3 ⟨rfl, hb3⟩
          have hrg3 := hrg2.kept (grown_none hb3) (by simp) (by simp)
          have hrow3 := (Kept.of_below hb3 (fun _ => False)).owns hrow2 (fun _ _ e => e)
          have hB3 : Below w.heap.size w w3 := hB2.trans (hb3.mono hB2.size)
          have hz3 := hb3.size
          clear hrg2 hrow2 hb3 hB2
          cases hp : p s n with
          | true =>
            have HP : Hid (p s (cntL ls s) = true) := by rw [Hid, ← HN.out]; exact hp
            clear hp
            go_wp2_with (at_builtin; refine wpList_append_own _ rfl _ _ 28 rfl wq.heap.size 9 i0 (.string ⟨#[]⟩) 1 16 Try.underlying28 hi hz0 hz1 hz2 rfl (by decide) _ _ _ rfl (hrow3.alloc _) ⟨w3.heap.size, 0, none⟩ 1 1 [.string s] rfl rfl ?c1 ?c2 ?c3 ?c4 ?c5 ?_)
            case c1 =>
              intro j u hj
              match j, hj with
              | 0, hj => simp at hj; subst hj; simp [Addr.add]
            case c2 => intro u hu; simp at hu; subst hu; rfl
            case c3 => unfold maxLen; omega
            case c4 => omega
            case c5 => simp; omega
            intro v' w4 hown4 hg4 _
            have hrg4 := (hrg3.alloc (.cells #[.string s] 9)).kept hg4 (row_ne_low hrow3 hmbl) (row_ne_iter hrow3 hrg3)
            have hB4 : Below w.heap.size w w4 := (hB3.alloc hB3.size _).grown hg4 (by simp; omega) (fun j hj => by have := (hrow3.lt j hj).1; omega)
            have HR4 : Hid (RngAt p ls w wq.heap.size NN D (fun z => left z && !z.sameKey (.string x)) cnt2 (ss ++ [x]) v' w4) := ⟨hrg4, by rw [List.length_append]; simp; omega, by rw [askL_yes HXS.out HP.out, List.length_append]; simpa [strs] using hown4, HCS.out, hB4⟩
            have hle4 := hrg4.left_eq
            clear hrow3 hrg3 hown4 hg4 hB3 hrg4 hB4
            go_wp2_with fail
            go_roundw
            case rel => exact ⟨_, cnt2, ss ++ [x], HR4.out⟩
            case measure => rw [hle4, HLE.out]; exact hlt2
          | false =>
            have HP : Hid (p s (cntL ls s) = false) := by rw [Hid, ← HN.out]; exact hp
            clear hp
            have hrow4 := hrow3
            rw [← askL_no (ss := ss) HXS.out HP.out] at hrow4
            have HR4 := hide (RngAt.mk (ss := ss ++ [x]) hrg3 (by rw [List.length_append]; simp; omega) hrow4 HCS.out hB3)
            clear hrow4
            have hle4 := hrg3.left_eq
            clear hrow3 hrg3 hB3
            go_wp2_with fail
            go_roundw
            case rel => exact ⟨_, cnt2, ss ++ [x], HR4.out⟩
            case measure => rw [hle4, HLE.out]; exact hlt2
set_option maxRecDepth 100000 in
set_option maxHeartbeats 4000000 in
theorem thoseL_some (b : Nat) (p : ByteArray → Nat → Bool) (a : Option Addr) (c : Nat) (xs : List Itm) (w : World) (hx : ItemsAt w a xs) (hne : xs ≠ []) (hxl : xs.length ≤ 1500000) (hsum : (xs.map Itm.l).flatten.length ≤ 1500000) (SE : Int) (TL : List ByteArray) (HS : Hid (SE = setsE xs ∧ TL = if setsE xs = 0 then thoseL p (xs.map Itm.l) else []))
    (HA : Hid (∀ W m (n : Nat), Below w.heap.size w W → Calls Try.prog 66 #[.string m, .int .i64 n, .pointer (some ⟨b, 0, none⟩)] W fun e w' => e = .returned (.bool (p m n)) ∧ Below W.heap.size W w')) :
    Calls Try.prog 63 #[.slice a xs.length c, .func (.func 66) #[] #[.pointer (some ⟨b, 0, none⟩)]] w fun e w' => ∃ a' cap, e = .returned (.tuple #[.slice a' TL.length cap, .int .i64 SE]) ∧ (∀ W, (∀ g o u, w.heap.size ≤ g → w'.cell? ⟨g, o, none⟩ = some u → W.cell? ⟨g, o, none⟩ = some u) → TextsAt W a' TL) ∧ Below w.heap.size w w' := by
  have hmm := @run_makeMap Try.prog
  obtain ⟨g, o, rfl, hc⟩ := hx.resolve_left hne
  have HX := hide hc
  have hpos : 0 < xs.length := List.length_pos_iff.2 hne
  have hpos' : ¬ ((xs.length : Nat) : Int) = 0 := by omega
  clear hc hne hx
  go_enter Try.func63, Try.ntmps63
  go_wp2_with fail
  have hwW : Hid (Below w.heap.size w (w.alloc (.map #[] 0))) := (Below.refl _ w).alloc (Nat.le_refl _) _
  go_loopw [21] (fun i wr => ∃ (k : Nat) (D : DataW Unit), k ≤ xs.length ∧ i = .int .i64 k ∧ ThoseAt xs w k D wr) (fun i _ => xs.length - (intOf i).toNat)
  case atStart => exact ⟨0, .map [], by omega, rfl, ⟨fun x hx => by simp at hx, Counts.start, World.ownsMap_made _ _ _ _, hwW.out⟩⟩
  case round =>
    obtain ⟨k, D, hk, rfl, hTA⟩ := hrel
    have HG := hide hTA.g
    have HD := hide hTA.d
    have hown := hTA.o
    have hnx := hTA.b
    clear hTA
    have hzr := hnx.size
    by_cases hlt : k < xs.length
    · have hlt' : ((k : Nat) : Int) < ((xs.length : Nat) : Int) := by omega
      obtain ⟨a1, c1, a2, c2, a3, c3, ⟨e0, e1, e2, e3, e4⟩, hI⟩ := HX.out k hlt
      have HI := hide hI
      have HBC : Hid (∀ g o v, w.cell? ⟨g, o, none⟩ = some v → wr.cell? ⟨g, o, none⟩ = some v) := fun g o _ hv => (hnx.cell (p := ⟨g, o, none⟩) (World.block_lt_of_cell? _ _ hv)).trans hv
      have d0 := HBC.out _ _ _ e0
      have d1 := HBC.out _ _ _ e1
      have d2 := HBC.out _ _ _ e2
      have d3 := HBC.out _ _ _ e3
      have d4 := HBC.out _ _ _ e4
      have HC : Hid (∀ W, Below w.heap.size w W → Calls Try.prog 39 #[.agg #[.int .i64 xs[k].k, .string xs[k].t, .slice a1 xs[k].l.length c1, .slice a2 xs[k].p.length c2, .slice a3 xs[k].s.length c3], .int .i64 3] W fun e w' => e = .returned (.int .i64 (asI xs[k] 3)) ∧ Below W.heap.size W w') := fun W hW => common_any _ xs[k] 3 W (HI.out.below hW)
      have HTK : Hid (xs.take (k + 1) = xs.take k ++ [xs[k]]) := List.take_succ_eq_append_getElem hlt
      obtain ⟨X, hX⟩ : ∃ X, X = xs[k] := ⟨_, rfl⟩
      rw [← hX] at d0 d1 d2 d3 d4 HC HTK HI
      have HXX := hide hX
      clear hX e0 e1 e2 e3 e4 hI HBC
      have hXL : Hid (asI X 3 = 0 → Rises X.l ∧ X.l.length ≤ 24 ∧ (∀ t ∈ X.l, t.size ≤ 60)) := asI_set
      obtain ⟨hT1, hTn⟩ : TextsAt w a1 X.l ∧ X.l.length ≤ 281474976710656 := by
        obtain ⟨⟨b1, q1, b2, q2, b3, q3, e, t1, -, -⟩, -, -, -, -, hl1, -, -⟩ := HI.out
        injection e with e
        have e' := congrArg (fun z => z[2]?) e
        simp at e'
        obtain ⟨rfl, _⟩ := e'
        exact ⟨t1, hl1⟩
      have HT1 := hide hT1
      clear hT1 HI
      generalize hXl : X.l = L at *
      have HXl := hide hXl
      clear hXl
      obtain ⟨E, hE⟩ : ∃ E, E = asI X 3 := ⟨_, rfl⟩
      rw [← hE] at HC hXL
      have HE := hide hE
      clear hE
      go_wp2_with fail
      refine (HC.out _ (hnx.alloc hnx.size _)).mono ?_
      rintro e w1 ⟨rfl, hb1⟩
      have hB1 : Below w.heap.size w w1 := (hnx.alloc hnx.size _).trans (hb1.mono (by simp; omega))
      have hg1 : wr.grownBy w1 none := (World.grownBy_alloc wr _ none).trans ⟨hb1.os, hb1.tape, hb1.output, hb1.size, fun j hj _ => hb1.block j hj⟩
      have hown1 := hown.kept hg1 (by simp)
      have bx2 : w1.cell? ⟨wr.heap.size, 2, none⟩ = some (.slice a1 L.length c1) := (hb1.cell (p := ⟨wr.heap.size, 2, none⟩) (by simp)).trans (by simp [go_sem])
      clear hown hg1 hb1 d0 d1 d2 d3 d4 HC hwW hmm
      by_cases h0 : E = 0
      · obtain ⟨hri, h24, h60⟩ := hXL.out h0
        have HZ : Hid (∀ t ∈ L, t.size ≤ maxLen) := fun t ht => by have := h60 t ht; unfold maxLen; omega
        have HE0 : Hid (asI X 3 = 0) := HE.out.symm.trans h0
        subst h0
        clear hXL h60 HE
        have hpl : ((xs.take k).map Itm.l).flatten.length + L.length ≤ 1500000 := by
          have h1 : ((xs.take (k + 1)).map Itm.l).flatten.length ≤ (xs.map Itm.l).flatten.length := by
            have e : xs.map Itm.l = (xs.take (k + 1)).map Itm.l ++ (xs.drop (k + 1)).map Itm.l := by rw [← List.map_append, List.take_append_drop]
            rw [e, List.flatten_append, List.length_append]
            omega
          rw [HTK.out, List.map_append, List.flatten_append, List.length_append] at h1
          have e9 : (([X].map Itm.l).flatten).length = L.length := by simp [HXl.out]
          rw [e9] at h1
          omega
        generalize hpre : ((xs.take k).map Itm.l).flatten = pre at *
        have HPRE := hide hpre
        clear hpre
        go_wp2_with fail
        go_loopw [33] (fun i wr => ∃ (m : Nat) (D : DataW Unit), m ≤ L.length ∧ i = .int .i64 m ∧ Hid (Counts D (pre ++ L.take m)) ∧ wr.ownsMap Try.prog 9 (plainElem Try.prog 3) w.heap.size (pre.length + m) D ∧ Below w.heap.size w wr) (fun i _ => L.length - (intOf i).toNat)
        case atStart => exact ⟨0, D, by omega, rfl, by rw [List.take_zero, List.append_nil]; exact HD.out, hown1, hB1⟩
        case round =>
          clear hown1 bx2 HD D
          obtain ⟨m, D, hm, rfl, HD, hown, hnx2⟩ := hrel
          by_cases hmt : m < L.length
          · have hmt' : ((m : Nat) : Int) < ((L.length : Nat) : Int) := by omega
            obtain ⟨g1, o1, rfl, hcs⟩ : ∃ g o, a1 = some ⟨g, o, none⟩ ∧ ∀ i (h : i < L.length), w.cell? ⟨g, o + i, none⟩ = some (.string L[i]) := by
              rcases HT1.out with h | h
              · subst h; simp at hmt
              · exact h
            have d0 : wr.cell? ⟨g1, o1 + m, none⟩ = some (.string L[m]) := (hnx2.cell (p := ⟨g1, o1 + m, none⟩) (World.block_lt_of_cell? _ _ (hcs m hmt))).trans (hcs m hmt)
            have HTM : Hid (pre ++ L.take (m + 1) = (pre ++ L.take m) ++ [L[m]]) := by rw [Hid, List.take_succ_eq_append_getElem hmt, List.append_assoc]
            have hsz : L[m].size ≤ maxLen := HZ.out _ (List.getElem_mem _)
            obtain ⟨s, hs⟩ : ∃ s, s = L[m] := ⟨_, rfl⟩
            rw [← hs] at d0 HTM hsz
            have hkey := keyS hsz
            clear hs hcs
            go_wp2_with (first
              | (at_lookup; refine wpList_lookup_own_int _ rfl _ _ 111 rfl 9 3 .i64 lawS Try.underlying111 Try.underlying3 (zeroI _) w.heap.size (pre.length + m) D rfl hown _ _ rfl hkey ?_; intro cc hat hwc)
              | (at_mapUpdate; refine wpList_mapUpdate_own _ rfl _ _ _ 111 rfl 9 3 lawS Try.underlying111 _ w.heap.size (pre.length + m) D rfl hown (by unfold maxLen; omega) _ _ _ rfl rfl hkey _ [] (plainElem_int Try.underlying3 (wrap64_wf _)) ?_))
            intro w5 hown5 hg5
            have B5 := hnx2.grown hg5 hnx2.size (fun j hj => by cases hj; exact Nat.le_refl _)
            have hcc : cc = (((bytesL (pre ++ L.take m)).count s.data.toList : Nat) : Int) := by
              have h1 := HD.out.at_ s.data.toList
              rw [h1] at hat
              injection hat with hat
              injection hat with _ hat
              exact hat.symm
            have hcl : (bytesL (pre ++ L.take m)).count s.data.toList ≤ 1500000 := by
              have h1 := List.count_le_length (a := s.data.toList) (l := bytesL (pre ++ L.take m))
              rw [bytesL_len, List.length_append, List.length_take] at h1
              omega
            have HC5 : Hid (Counts (D.put (.string s.data.toList) (.lit (.int .i64 (wrap64 (cc + 1))))) (pre ++ L.take (m + 1))) := by
              rw [HTM.out]
              have e : wrap64 (cc + 1) = (((bytesL (pre ++ L.take m)).count s.data.toList : Nat) : Int) + 1 := by rw [hcc]; unfold wrap64; omega
              rw [e]
              exact HD.out.step hown.isMap s
            clear hown hat hwc hcc hcl d0 hkey hg5
            go_wp2_with fail
            go_roundw
            case rel => exact ⟨m + 1, _, by omega, by go_num, HC5, hown5, B5⟩
            case measure => simp [intOf]; omega
          · have hge : ¬ ((m : Nat) : Int) < ((L.length : Nat) : Int) := by omega
            obtain rfl : m = L.length := by omega
            go_wp2_with fail
            have e2 : ((xs.take (k + 1)).map Itm.l).flatten = pre ++ L := by
              rw [HTK.out, List.map_append, List.flatten_append, HPRE.out]
              simp [HXl.out]
            refine ⟨⟨_, _, _, _, _, .int .i64 (((k : Nat) : Int) + 1), ⟨k + 1, by omega, by simp, D, ?_, ?_, ?_, hnx2⟩, rfl, rfl, rfl, rfl, rfl, rfl⟩, by simp [intOf]; omega⟩
            · rw [HTK.out]
              intro x hx
              rcases List.mem_append.1 hx with hx | hx
              · exact HG.out x hx
              · rw [List.mem_singleton.1 hx]; exact HE0.out
            · rw [e2]
              have := HD.out
              rw [List.take_length] at this
              exact this
            · rw [e2, List.length_append]
              exact hown
      · have h0' : (E == 0) = false := by rw [beq_eq_false_iff_ne]; exact h0
        go_wp2_with fail
        have hse : setsE xs = E := by
          have h1 := setsE_at hlt HG.out (by rw [← HXX.out, ← HE.out]; exact h0)
          rw [h1, ← HXX.out, ← HE.out]
        refine bodyPost_ret (v := .tuple #[.slice none 0 0, .int .i64 E]) (by simp [results, Try.results63, go_sem]) rfl ?_
        have e1 : SE = E := HS.out.1.trans hse
        have e2 : TL = [] := by rw [HS.out.2, hse, if_neg h0]
        rw [e1, e2]
        exact ⟨none, 0, rfl, fun W _ => .inl rfl, hB1⟩
    · have hge : ¬ ((k : Nat) : Int) < ((xs.length : Nat) : Int) := by omega
      obtain rfl : k = xs.length := by omega
      rw [List.take_length] at HG HD hown
      have hSE : SE = 0 := HS.out.1.trans (setsE_all HG.out)
      have HTL : Hid (TL = thoseL p (xs.map Itm.l)) := by rw [Hid, HS.out.2, if_pos (setsE_all HG.out)]
      have HR : Hid (∀ l ∈ xs.map Itm.l, Rises l) := fun l hl => by
        obtain ⟨y, hy, rfl⟩ := List.mem_map.1 hl
        exact (asI_set (HG.out y hy)).1
      have HZL : Hid (∀ l ∈ xs.map Itm.l, ∀ t ∈ l, t.size ≤ 60) := fun l hl => by
        obtain ⟨y, hy, rfl⟩ := List.mem_map.1 hl
        exact (asI_set (HG.out y hy)).2.2
      subst hSE
      clear HS HG HX hwW hmm
      generalize hls : xs.map Itm.l = ls at *
      clear hls
      obtain ⟨i0, hi, hz0, hz1, hz2⟩ := info_parts infoStr
      have hsD : Maps.size D ≤ 1500000 := Nat.le_trans hown.size_le hsum
      have hmbl := hown.lt
      generalize ls.flatten.length = NN at *
      obtain ⟨wq, hwq⟩ : ∃ wq, wq = wr := ⟨wr, rfl⟩
      subst hwq
      go_wp2_with (at_range; refine wpList_range_own _ rfl _ 111 rfl 9 3 lawS Try.underlying111 _ w.heap.size NN D rfl hown ?_; intro w0 hrg0 hg0 hs0)
      have B0 : Below w.heap.size w w0 := hnx.grown hg0 hnx.size (fun j hj => by cases hj)
      clear hg0 hs0
      go_loopw [12] (fun v wr => ∃ left cnt ss, RngAt p ls w wq.heap.size NN D left cnt ss v wr) (fun _ wr => wr.rangeLeft w.heap.size wq.heap.size)
      case atStart => exact ⟨_, _, [], ⟨hrg0, by simp, World.ownsRow_nil _ _ _ _, Collected.start D, B0⟩⟩
      case round =>
        clear hrg0 B0
        obtain ⟨left, cnt, ss, hR⟩ := hrel
        have hrg := hR.rg
        have HRR := hide hR
        clear hR
        go_wp2_with (at_next; refine wpList_next_ranges _ rfl _ rfl 9 lawS (plainElem Try.prog 3) encStr (Value.int .i64) (fun key kl hk => by obtain ⟨x, hx, _⟩ := Maps.keyOf_str Try.underlying9 hk; exact ⟨x, hx⟩) (fun v y hv => by obtain ⟨c, rfl, _⟩ := plainElem_int_inv Try.underlying3 hv; exact ⟨c, rfl⟩) w.heap.size wq.heap.size NN _ _ _ rfl hrg ?_ ?_)
        · intro hc0 hl0
          obtain ⟨av, cv, hav⟩ := slice_own HRR.out.rw
          subst hav
          have hal := askL_len p ls ss
          have hct := HRR.out.ct
          have HSO := hide (sort_any av cv (askL p ls ss) w wr HRR.out.bl (fun hne => by
            obtain ⟨gg, cc, e, _, _⟩ := HRR.out.rw.form (List.length_pos_iff.2 hne)
            injection e with e1 e2 e3
            subst e1
            exact ⟨gg, rfl, own_low HRR.out.rw (Nat.le_of_lt hmbl)⟩) (by omega))
          have HEND : Hid (sortL (askL p ls ss) = TL) := by
            rw [Hid, HTL.out]
            refine askL_end HRR.out.cl.1 (fun x => ?_)
            rw [HRR.out.cl.2 x, hl0, ← HD.out.has_]
            simp
          have hTll : TL.length = (askL p ls ss).length := by rw [← HEND.out, sortL_len]
          clear hrg HRR
          generalize askL p ls ss = ML at *
          go_wp2_with fail
          refine HSO.out.mono ?_
          rintro e w4 ⟨rfl, hb4, hr4⟩
          have HR4 := hide hr4
          clear hr4 HSO
          go_wp2_with fail
          refine bodyPost_ret (v := .tuple #[.slice av ML.length cv, .int .i64 0]) (by simp [results, Try.results63, go_sem]) rfl ⟨av, cv, by rw [hTll], fun W hW => ?_, hb4⟩
          by_cases hML : ML = []
          · refine .inl (List.eq_nil_of_length_eq_zero ?_)
            rw [hTll, hML]
            rfl
          · obtain ⟨gg, rfl, ho⟩ := HR4.out hML
            rw [HEND.out, ← hTll] at ho
            exact texts_from ho hW
        · intro x c kl yd yp w2 cnt2 hkey hlk hv hat hrg2 hlt2 hg2 hs2 hen
          obtain ⟨x', ex, rfl, hxl⟩ := Maps.keyOf_str Try.underlying9 hkey
          obtain rfl : x = x' := encStr_inj ex
          have hcn : c = ((cntL ls ⟨x.toArray⟩ : Nat) : Int) := by
            obtain ⟨a, h1, h2, _⟩ := plainElem_int_inv Try.underlying3 hv
            injection h1 with _ h1
            have h3 := hat (.lit (.int .i64 0))
            rw [HD.out.at_ x] at h3
            have h4 := count_flat ls ⟨x.toArray⟩ HR.out
            rw [show (ByteArray.mk x.toArray).data.toList = x by simp] at h4
            rw [h4] at h3
            injection h2 with h2 _
            rw [h2] at h3
            injection h3 with h3
            injection h3 with _ h3
            rw [h1, ← h3]
          obtain ⟨s, hs⟩ : ∃ s : ByteArray, s = ⟨x.toArray⟩ := ⟨_, rfl⟩
          have HXS := hide hs
          have exs : (encStr x : Value) = .string s := by rw [hs]
          rw [← hs] at hcn
          obtain ⟨n, hn⟩ : ∃ n, n = cntL ls s := ⟨_, rfl⟩
          rw [← hn] at hcn
          have HN := hide hn
          subst hcn
          have hrow2 := HRR.out.rw.kept hg2 (Or.inr (row_ne_iter HRR.out.rw hrg).symm)
          have hbl := HRR.out.bl
          have hzb := hbl.size
          have hrl := hrg.lt
          have hB2 : Below w.heap.size w w2 := hbl.grown hg2 hbl.size (fun j hj => by cases hj; exact Nat.le_of_lt hmbl)
          have hzz2 := hg2.size
          have hct := HRR.out.ct
          have hal := askL_len p ls ss
          have HCS := hide (HRR.out.cl.step hlk hat)
          have hleft := hrg.left_eq
          have HLE := hide hleft
          rw [exs] at hen
          clear hs hn hs2 hrg HRR hkey hv hat ex hg2 hlk hleft hbl
          rw [exs]
          clear exs hxl
          go_wp2_with fail
          refine (HA.out w2 s n hB2).mono ?_
          rintro e w3 ⟨rfl, hb3⟩
          have hrg3 := hrg2.kept (grown_none hb3) (by simp) (by simp)
          have hrow3 := (Kept.of_below hb3 (fun _ => False)).owns hrow2 (fun _ _ e => e)
          have hB3 : Below w.heap.size w w3 := hB2.trans (hb3.mono hB2.size)
          have hz3 := hb3.size
          clear hrg2 hrow2 hb3 hB2
          cases hp : p s n with
          | true =>
            have HP : Hid (p s (cntL ls s) = true) := by rw [Hid, ← HN.out]; exact hp
            clear hp
            go_wp2_with (at_builtin; refine wpList_append_own _ rfl _ _ 28 rfl wq.heap.size 9 i0 (.string ⟨#[]⟩) 1 16 Try.underlying28 hi hz0 hz1 hz2 rfl (by decide) _ _ _ rfl (hrow3.alloc _) ⟨w3.heap.size, 0, none⟩ 1 1 [.string s] rfl rfl ?c1 ?c2 ?c3 ?c4 ?c5 ?_)
            case c1 =>
              intro j u hj
              match j, hj with
              | 0, hj => simp at hj; subst hj; simp [Addr.add]
            case c2 => intro u hu; simp at hu; subst hu; rfl
            case c3 => unfold maxLen; omega
            case c4 => omega
            case c5 => simp; omega
            intro v' w4 hown4 hg4 _
            have hrg4 := (hrg3.alloc (.cells #[.string s] 9)).kept hg4 (row_ne_low hrow3 hmbl) (row_ne_iter hrow3 hrg3)
            have hB4 : Below w.heap.size w w4 := (hB3.alloc hB3.size _).grown hg4 (by simp; omega) (fun j hj => by have := (hrow3.lt j hj).1; omega)
            have HR4 : Hid (RngAt p ls w wq.heap.size NN D (fun z => left z && !z.sameKey (.string x)) cnt2 (ss ++ [x]) v' w4) := ⟨hrg4, by rw [List.length_append]; simp; omega, by rw [askL_yes HXS.out HP.out, List.length_append]; simpa [strs] using hown4, HCS.out, hB4⟩
            have hle4 := hrg4.left_eq
            clear hrow3 hrg3 hown4 hg4 hB3 hrg4 hB4
            go_wp2_with fail
            go_roundw
            case rel => exact ⟨_, cnt2, ss ++ [x], HR4.out⟩
            case measure => rw [hle4, HLE.out]; exact hlt2
          | false =>
            have HP : Hid (p s (cntL ls s) = false) := by rw [Hid, ← HN.out]; exact hp
            clear hp
            have hrow4 := hrow3
            rw [← askL_no (ss := ss) HXS.out HP.out] at hrow4
            have HR4 := hide (RngAt.mk (ss := ss ++ [x]) hrg3 (by rw [List.length_append]; simp; omega) hrow4 HCS.out hB3)
            clear hrow4
            have hle4 := hrg3.left_eq
            clear hrow3 hrg3 hB3
            go_wp2_with fail
            go_roundw
            case rel => exact ⟨_, cnt2, ss ++ [x], HR4.out⟩
            case measure => rw [hle4, HLE.out]; exact hlt2
end Go.Proofs.Ytkjnalbnhmpopaa
namespace Go.Proofs.Ytkjnalbnhmpopaa
open Go.RowKit

set_option maxRecDepth 100000 in
theorem those_none (a : Option Addr) (c : Nat) (fv : Value) (w : World) : Calls Try.prog 63 #[.slice a 0 c, fv] w fun e w' => ∃ a' cap, e = .returned (.tuple #[.slice a' ([] : List ByteArray).length cap, .int .i64 1]) ∧ (∀ W', (∀ g o u, w.heap.size ≤ g → w'.cell? ⟨g, o, none⟩ = some u → W'.cell? ⟨g, o, none⟩ = some u) → TextsAt W' a' []) ∧ Below w.heap.size w w' := by
  go_enter Try.func63, Try.ntmps63
  go_wp2_with fail
  refine bodyPost_ret (v := .tuple #[.slice none 0 0, .int .i64 1]) (by simp [results, Try.results63, go_sem]) rfl ⟨none, 0, rfl, fun W _ => .inl rfl, Below.refl _ _⟩
/-- what meet asks for -/
def askM (xs : List Itm) : ByteArray → Nat → Bool := fun _ n => decide (n = xs.length)
set_option maxRecDepth 100000 in
set_option maxHeartbeats 1000000 in
theorem askM_any (b : Nat) (a : Option Addr) (c : Nat) (xs : List Itm) (m : ByteArray) (n : Nat) (W : World) (hx : ItemsAt W a xs) (hne : xs ≠ []) (hxl : xs.length ≤ 1500000) (hc : W.cell? ⟨b, 0, none⟩ = some (.slice a xs.length c)) : Calls Try.prog 64 #[.string m, .int .i64 n, .pointer (some ⟨b, 0, none⟩)] W fun e w' => e = .returned (.bool (askM xs m n)) ∧ Below W.heap.size W w' := by
  have _u1 := hx
  have _u2 := hne
  have _u3 := hxl
  clear _u1 _u2 _u3
  have hd : (((n : Nat) : Int) == ((xs.length : Nat) : Int)) = decide (n = xs.length) := by rw [Bool.eq_iff_iff]; simp; omega
  clear hx
  go_enter Try.func64, Try.ntmps64
  go_wp2_with fail
  go_ret
  exact ⟨by first | rfl | rw [askM, ← hd] | simp [askM], Below.refl _ _⟩

set_option maxRecDepth 100000 in
set_option maxHeartbeats 1000000 in
theorem meet_any (a : Option Addr) (c : Nat) (xs : List Itm) (w : World) (hx : ItemsAt w a xs) (hxl : xs.length ≤ 1500000) (hsum : (xs.map Itm.l).flatten.length ≤ 1500000) (SE : Int) (TL : List ByteArray) (HS : Hid (SE = setsF xs ∧ TL = if setsF xs = 0 then thoseL (askM xs) (xs.map Itm.l) else [])) :
    Calls Try.prog 28 #[.slice a xs.length c] w fun e w' => ∃ a' cap, e = .returned (.tuple #[.slice a' TL.length cap, .int .i64 SE]) ∧ (∀ W, (∀ g o u, w.heap.size ≤ g → w'.cell? ⟨g, o, none⟩ = some u → W.cell? ⟨g, o, none⟩ = some u) → TextsAt W a' TL) ∧ Below w.heap.size w w' := by
  have HB : Hid (∀ W, ∀ b, W.cell? ⟨b, 0, none⟩ = some (.slice a xs.length c) → Below w.heap.size w W → Calls Try.prog 63 #[.slice a xs.length c, .func (.func 64) #[] #[.pointer (some ⟨b, 0, none⟩)]] W fun e w' => ∃ a' cap, e = .returned (.tuple #[.slice a' TL.length cap, .int .i64 SE]) ∧ (∀ W', (∀ g o u, W.heap.size ≤ g → w'.cell? ⟨g, o, none⟩ = some u → W'.cell? ⟨g, o, none⟩ = some u) → TextsAt W' a' TL) ∧ Below W.heap.size W w') := fun W b hcb hW => by
    by_cases hne : xs = []
    · subst hne
      obtain ⟨e1, e2⟩ := HS.out
      have h1 : SE = 1 := e1
      have h2 : TL = [] := e2
      subst h1 h2
      exact those_none a c _ W
    · have e : setsF xs = setsE xs := if_neg hne
      refine thoseM_some b (askM xs) a c xs W (hx.below hW) hne hxl hsum SE TL (by rw [← e]; exact HS.out) (fun W2 m n hW2 => ?_)
      exact askM_any b a c xs m n W2 (hx.below (hW.trans (hW2.mono hW.size))) hne hxl ((hW2.cell (p := ⟨b, 0, none⟩) (World.block_lt_of_cell? _ _ hcb)).trans hcb)
  clear hx HS
  go_enter Try.func28, Try.ntmps28
  go_wp2_with fail
  refine (HB.out _ w.heap.size (by simp [go_sem]) ((Below.refl _ w).alloc (Nat.le_refl _) _)).mono ?_
  rintro e w1 ⟨a', cap, rfl, hT, hb⟩
  have HT := hide hT
  clear hT HB
  go_wp2_with fail
  refine bodyPost_ret (v := .tuple #[.slice a' TL.length cap, .int .i64 SE]) (by simp [results, Try.results28, go_sem]) rfl ⟨a', cap, rfl, fun W hW => HT.out W (fun g o u hg hu => hW g o u (by simp at hg; omega) hu), ((Below.refl _ w).alloc (Nat.le_refl _) _).trans (hb.mono (by simp))⟩
/-- what joinS asks for -/
def askJ (xs : List Itm) : ByteArray → Nat → Bool := fun _ _ => have _u := xs; true
set_option maxRecDepth 100000 in
set_option maxHeartbeats 1000000 in
theorem askJ_any (a : Option Addr) (c : Nat) (xs : List Itm) (m : ByteArray) (n : Nat) (W : World) (hx : ItemsAt W a xs) (hne : xs ≠ []) (hxl : xs.length ≤ 1500000) : Calls Try.prog 65 #[.string m, .int .i64 n] W fun e w' => e = .returned (.bool (askJ xs m n)) ∧ Below W.heap.size W w' := by
  have _u1 := hx
  have _u2 := hne
  have _u3 := hxl
  have _u4 := c
  clear _u1 _u2 _u3 _u4 hx
  go_enter Try.func65, Try.ntmps65
  go_wp2_with fail
  go_ret
  exact ⟨rfl, Below.refl _ _⟩

set_option maxRecDepth 100000 in
set_option maxHeartbeats 1000000 in
theorem joinS_any (a : Option Addr) (c : Nat) (xs : List Itm) (w : World) (hx : ItemsAt w a xs) (hxl : xs.length ≤ 1500000) (hsum : (xs.map Itm.l).flatten.length ≤ 1500000) (SE : Int) (TL : List ByteArray) (HS : Hid (SE = setsF xs ∧ TL = if setsF xs = 0 then thoseL (askJ xs) (xs.map Itm.l) else [])) :
    Calls Try.prog 29 #[.slice a xs.length c] w fun e w' => ∃ a' cap, e = .returned (.tuple #[.slice a' TL.length cap, .int .i64 SE]) ∧ (∀ W, (∀ g o u, w.heap.size ≤ g → w'.cell? ⟨g, o, none⟩ = some u → W.cell? ⟨g, o, none⟩ = some u) → TextsAt W a' TL) ∧ Below w.heap.size w w' := by
  have HB : Hid (∀ W, Below w.heap.size w W → Calls Try.prog 63 #[.slice a xs.length c, .func (.func 65) #[] #[]] W fun e w' => ∃ a' cap, e = .returned (.tuple #[.slice a' TL.length cap, .int .i64 SE]) ∧ (∀ W', (∀ g o u, W.heap.size ≤ g → w'.cell? ⟨g, o, none⟩ = some u → W'.cell? ⟨g, o, none⟩ = some u) → TextsAt W' a' TL) ∧ Below W.heap.size W w') := fun W hW => by
    by_cases hne : xs = []
    · subst hne
      obtain ⟨e1, e2⟩ := HS.out
      have h1 : SE = 1 := e1
      have h2 : TL = [] := e2
      subst h1 h2
      exact those_none a c _ W
    · have e : setsF xs = setsE xs := if_neg hne
      refine thoseJ_some (askJ xs) a c xs W (hx.below hW) hne hxl hsum SE TL (by rw [← e]; exact HS.out) (fun W2 m n hW2 => ?_)
      exact askJ_any a c xs m n W2 (hx.below (hW.trans (hW2.mono hW.size))) hne hxl
  clear hx HS
  go_enter Try.func29, Try.ntmps29
  go_wp2_with fail
  refine (HB.out _ (Below.refl _ w)).mono ?_
  rintro e w1 ⟨a', cap, rfl, hT, hb⟩
  have HT := hide hT
  clear hT HB
  go_wp2_with fail
  refine bodyPost_ret (v := .tuple #[.slice a' TL.length cap, .int .i64 SE]) (by simp [results, Try.results29, go_sem]) rfl ⟨a', cap, rfl, fun W hW => HT.out W (fun g o u hg hu => hW g o u (hg) hu), hb⟩
/-- what less asks for -/
def askL1 (xs : List Itm) : ByteArray → Nat → Bool := fun m n => decide (n = 1) && hasT (xs.headD Itm.none).l m
set_option maxRecDepth 100000 in
set_option maxHeartbeats 1000000 in
theorem askL1_any (b : Nat) (a : Option Addr) (c : Nat) (xs : List Itm) (m : ByteArray) (n : Nat) (W : World) (hx : ItemsAt W a xs) (hne : xs ≠ []) (hxl : xs.length ≤ 1500000) (hc : W.cell? ⟨b, 0, none⟩ = some (.slice a xs.length c)) : Calls Try.prog 66 #[.string m, .int .i64 n, .pointer (some ⟨b, 0, none⟩)] W fun e w' => e = .returned (.bool (askL1 xs m n)) ∧ Below W.heap.size W w' := by
  obtain ⟨g, o, rfl, hcs⟩ := hx.resolve_left hne
  have hpos : 0 < xs.length := List.length_pos_iff.2 hne
  obtain ⟨a1, c1, a2, c2, a3, c3, ⟨-, -, d2, -, -⟩, hI⟩ := hcs 0 hpos
  rw [Nat.zero_mul, Nat.add_zero] at d2
  obtain ⟨hT1, hTn⟩ : TextsAt W a1 xs[0].l ∧ xs[0].l.length ≤ 281474976710656 := by
    obtain ⟨⟨b1, q1, b2, q2, b3, q3, e, t1, -, -⟩, -, -, -, -, hl1, -, -⟩ := hI
    injection e with e
    have e' := congrArg (fun z => z[2]?) e
    simp at e'
    obtain ⟨rfl, _⟩ := e'
    exact ⟨t1, hl1⟩
  have HN := hide (contains_any a1 c1 xs[0].l m W hT1 hTn)
  have hP : askL1 xs m n = (decide (n = 1) && hasT xs[0].l m) := by
    cases xs with
    | nil => exact absurd rfl hne
    | cons y r => rfl
  rw [hP]
  have hpos' : (0 : Int) < ((xs.length : Nat) : Int) := by omega
  clear hcs hI hT1 hP hne
  generalize xs[0].l.length = nl at *
  generalize hasT xs[0].l m = R at *
  by_cases hn : n = 1
  · subst hn
    rw [decide_eq_true rfl, Bool.true_and]
    go_enter Try.func66, Try.ntmps66
    go_wp2_with fail
    refine HN.out.mono ?_
    rintro e w1 ⟨rfl, rfl⟩
    go_wp2_with fail
    go_ret
    exact ⟨rfl, Below.refl _ _⟩
  · rw [decide_eq_false hn, Bool.false_and]
    have hn' : ¬ ((n : Nat) : Int) = 1 := by omega
    go_enter Try.func66, Try.ntmps66
    go_wp2_with fail
    go_ret
    exact ⟨rfl, Below.refl _ _⟩

set_option maxRecDepth 100000 in
set_option maxHeartbeats 1000000 in
theorem lessS_any (a : Option Addr) (c : Nat) (xs : List Itm) (w : World) (hx : ItemsAt w a xs) (hxl : xs.length ≤ 1500000) (hsum : (xs.map Itm.l).flatten.length ≤ 1500000) (SE : Int) (TL : List ByteArray) (HS : Hid (SE = setsF xs ∧ TL = if setsF xs = 0 then thoseL (askL1 xs) (xs.map Itm.l) else [])) :
    Calls Try.prog 30 #[.slice a xs.length c] w fun e w' => ∃ a' cap, e = .returned (.tuple #[.slice a' TL.length cap, .int .i64 SE]) ∧ (∀ W, (∀ g o u, w.heap.size ≤ g → w'.cell? ⟨g, o, none⟩ = some u → W.cell? ⟨g, o, none⟩ = some u) → TextsAt W a' TL) ∧ Below w.heap.size w w' := by
  have HB : Hid (∀ W, ∀ b, W.cell? ⟨b, 0, none⟩ = some (.slice a xs.length c) → Below w.heap.size w W → Calls Try.prog 63 #[.slice a xs.length c, .func (.func 66) #[] #[.pointer (some ⟨b, 0, none⟩)]] W fun e w' => ∃ a' cap, e = .returned (.tuple #[.slice a' TL.length cap, .int .i64 SE]) ∧ (∀ W', (∀ g o u, W.heap.size ≤ g → w'.cell? ⟨g, o, none⟩ = some u → W'.cell? ⟨g, o, none⟩ = some u) → TextsAt W' a' TL) ∧ Below W.heap.size W w') := fun W b hcb hW => by
    by_cases hne : xs = []
    · subst hne
      obtain ⟨e1, e2⟩ := HS.out
      have h1 : SE = 1 := e1
      have h2 : TL = [] := e2
      subst h1 h2
      exact those_none a c _ W
    · have e : setsF xs = setsE xs := if_neg hne
      refine thoseL_some b (askL1 xs) a c xs W (hx.below hW) hne hxl hsum SE TL (by rw [← e]; exact HS.out) (fun W2 m n hW2 => ?_)
      exact askL1_any b a c xs m n W2 (hx.below (hW.trans (hW2.mono hW.size))) hne hxl ((hW2.cell (p := ⟨b, 0, none⟩) (World.block_lt_of_cell? _ _ hcb)).trans hcb)
  clear hx HS
  go_enter Try.func30, Try.ntmps30
  go_wp2_with fail
  refine (HB.out _ w.heap.size (by simp [go_sem]) ((Below.refl _ w).alloc (Nat.le_refl _) _)).mono ?_
  rintro e w1 ⟨a', cap, rfl, hT, hb⟩
  have HT := hide hT
  clear hT HB
  go_wp2_with fail
  refine bodyPost_ret (v := .tuple #[.slice a' TL.length cap, .int .i64 SE]) (by simp [results, Try.results30, go_sem]) rfl ⟨a', cap, rfl, fun W hW => HT.out W (fun g o u hg hu => hW g o u (by simp at hg; omega) hu), ((Below.refl _ w).alloc (Nat.le_refl _) _).trans (hb.mono (by simp))⟩
end Go.Proofs.Ytkjnalbnhmpopaa
