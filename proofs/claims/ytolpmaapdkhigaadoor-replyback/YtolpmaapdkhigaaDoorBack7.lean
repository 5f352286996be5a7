/- WALK of ReplyBack. -/
import Derived.Test.YtolpmaapdkhigaaDoorBack6
import Derived.Deep.Cut
import Derived.Deep.CutRange
import Derived.Handy
namespace Go.Proofs.YtolpmaapdkhigaaDoor
open Go.RowKit

def Top.out (x : Top) : List UInt8 := if x.check = 0 then x.enc else []
theorem encTop_any (x : Top) (w : World) (he : Env w) (hx : x.Lies w) :
    Calls Tryd.prog 7 #[x.val] w fun e w' => e = .returned (.tuple #[.string ⟨x.out.toArray⟩, .int .i64 x.check]) ∧ Below w.heap.size w w' := by
  by_cases hc : x.check = 0
  · rw [Top.out, if_pos hc, hc]
    exact encTop_ok x w he hx hc
  · rw [Top.out, if_neg hc]
    exact encTop_err x w hx hc
theorem slice_to (s : ByteArray) (m : Nat) (h : m ≤ s.size) (W : World) :
    (Instr.slice 9 (.string s) none (some (.int .i64 (m : Int))) none).run Tryd.prog W = .ok (.string ⟨(s.data.toList.take m).toArray⟩) W := by
  rw [run_slice_string_to_if (P := Tryd.prog) W 9 s .i64 _ Tryd.underlying9, if_pos (by omega), Int.toNat_natCast]
  congr 2
  exact ba_ext (by simp)

theorem two_below {w w1 : World} {o o2 : Obj} (hb : Below ((w.alloc o).alloc o2).heap.size ((w.alloc o).alloc o2) w1) :
    w1.heap[w.heap.size]? = some o ∧ w1.heap[w.heap.size + 1]? = some o2 ∧ Below w.heap.size w w1 ∧ w.heap.size + 2 ≤ w1.heap.size := by
  have e : (w.alloc o).heap.size = w.heap.size + 1 := by simp
  have h2 := heap_alloc_new (w.alloc o) o2
  rw [e] at h2
  have hs : ((w.alloc o).alloc o2).heap.size = w.heap.size + 2 := by simp
  rw [hs] at hb
  have h0 := hb.size
  rw [hs] at h0
  exact ⟨(hb.block w.heap.size (by omega)).trans ((Below.heap_alloc _ _ _ (by simp)).trans (heap_alloc_new w o)), (hb.block (w.heap.size + 1) (by omega)).trans h2,
    (((Below.refl _ w).alloc (Nat.le_refl _) _).alloc (by simp) _).trans (hb.mono (by omega)), h0⟩

theorem pSingle_kind {c : UInt8} {l q : List UInt8} {r : One} (h : pSingle c l = .ok (r, q)) : r.k ≠ 6 := by
  unfold pSingle at h
  split at h
  · split at h
    · simp at h
    · simp at h; obtain ⟨rfl, rfl⟩ := h; simp
  · split at h
    · split at h
      · simp at h
      · simp at h; obtain ⟨rfl, rfl⟩ := h; simp
    · split at h
      · split at h
        · simp at h
        · simp at h; obtain ⟨rfl, rfl⟩ := h; simp
      · split at h
        · unfold pBytes at h
          split at h
          · simp at h
          · split at h
            · simp at h; obtain ⟨rfl, rfl⟩ := h; simp
            · split at h
              · simp at h
              · split at h
                · simp at h
                · split at h
                  · simp at h
                  · simp at h; obtain ⟨rfl, rfl⟩ := h; simp
        · simp at h
theorem pAll_fine {l : List UInt8} {g : Got} (h : pAll l = .ok g) : g.fine := by
  cases l with
  | nil => simp [pAll] at h
  | cons c l =>
    have hat : ∀ g' q, atEnd g' q = .ok g → g = g' := fun g' q hx => by cases q <;> simp [atEnd] at hx; exact hx.symm
    rw [pAll] at h
    split at h
    · split at h
      · simp at h
      · have := hat _ _ h
        subst this
        trivial
    · split at h
      · simp at h
      · rename_i he
        have := hat _ _ h
        subst this
        exact pSingle_kind he
/-- what Decode answers: nothing, or what encodes to just these bytes -/
theorem decode_back (s : ByteArray) (w : World) (hs : s.size ≤ 281474976710656) (he : Env w) :
    Calls Tryd.prog 8 #[.string s] w fun e w' => Below w.heap.size w w' ∧
      ((∃ c : Int, c ≠ 0 ∧ e = .returned (.tuple #[.agg zCells, .int .i64 c])) ∨ ∃ z : Top, e = .returned (.tuple #[z.val, .int .i64 0]) ∧ z.Lies w' ∧ z.check = 0 ∧ (⟨z.enc.toArray⟩ : ByteArray) = s) := by
  refine (decode_any s w hs he).mono ?_
  rintro e w' ⟨hb, herr, hok⟩
  refine ⟨hb, ?_⟩
  cases hp : pAll s.data.toList with
  | error n => exact .inl ⟨1, by decide, herr n hp⟩
  | ok g =>
    obtain ⟨h1, h2⟩ := hok g hp
    by_cases hg : gotCheck g = 0
    · obtain ⟨v, rfl, hv⟩ := h1 hg
      obtain ⟨z, rfl, h3, _, h5, h6⟩ := got_view hv (pAll_fine hp) (fun r hr => by have := pAll_size hp r hr; rw [size_list] at this; unfold maxLen; omega)
      refine .inr ⟨z, rfl, h3, h5.trans hg, ?_⟩
      rw [h6, ← all_inv hp]
    · exact .inl ⟨gotCheck g, hg, h2 hg⟩

set_option maxRecDepth 100000 in
set_option maxHeartbeats 4000000 in
theorem replyBack_walk (x y : Top) (s : ByteArray) (w : World) (he : Env w) (hx : x.Lies w) (hy : y.Lies w) (hs : s.size ≤ 281474976710656) :
    Calls Tryd.prog 4 #[x.val, y.val, .string s] w fun e w' => e = .returned (.bool true) ∧ Below w.heap.size w w' := by
  have HBG : Hid (∀ w1, Below w.heap.size w w1 → Calls Tryd.prog 12 #[] w1 fun e w' => e = .returned (.bool true) ∧ Below w1.heap.size w1 w') := fun w1 hb => replyBegun_any w1 (he.below hb)
  have HEX : Hid (∀ w1, Below w.heap.size w w1 → Calls Tryd.prog 7 #[x.val] w1 fun e w' => e = .returned (.tuple #[.string ⟨x.out.toArray⟩, .int .i64 x.check]) ∧ Below w1.heap.size w1 w') := fun w1 hb => encTop_any x w1 (he.below hb) (hx.below hb)
  have HEY : Hid (∀ w1, Below w.heap.size w w1 → Calls Tryd.prog 7 #[y.val] w1 fun e w' => e = .returned (.tuple #[.string ⟨y.out.toArray⟩, .int .i64 y.check]) ∧ Below w1.heap.size w1 w') := fun w1 hb => encTop_any y w1 (he.below hb) (hy.below hb)
  have HDX : Hid (x.check = 0 → ∀ w1, Below w.heap.size w w1 → Calls Tryd.prog 8 #[.string ⟨x.out.toArray⟩] w1 fun e w' => ∃ z : Top, e = .returned (.tuple #[z.val, .int .i64 0]) ∧ Below w1.heap.size w1 w' ∧
      (∀ w2, Below w'.heap.size w' w2 → Calls Tryd.prog 14 #[z.val, x.val] w2 fun e w'' => e = .returned (.bool true) ∧ Below w2.heap.size w2 w'')) := fun hc w1 hb => by
    rw [Top.out, if_pos hc]
    refine (decTop x w1 (he.below hb) hc).mono ?_
    rintro e w' ⟨z, rfl, hz, hg, hzc, hb'⟩
    exact ⟨z, rfl, hb', fun w2 h2 => same_any z x w2 (hz.below h2) ((hx.below (hb.trans (hb'.mono hb.size))).below h2) hzc hc hg⟩
  have HSXY : Hid (x.check = 0 → y.check = 0 → (⟨x.out.toArray⟩ : ByteArray).data.toList <+: (⟨y.out.toArray⟩ : ByteArray).data.toList → ∀ w1, Below w.heap.size w w1 → Calls Tryd.prog 14 #[x.val, y.val] w1 fun e w'' => e = .returned (.bool true) ∧ Below w1.heap.size w1 w'') := fun hc hd hp w1 hb => by
    rw [mk_data, mk_data, Top.out, if_pos hc, Top.out, if_pos hd] at hp
    exact same_any x y w1 (hx.below hb) (hy.below hb) hc hd (apart hc hd hp)
  have HDS : Hid (∀ w1, Below w.heap.size w w1 → Calls Tryd.prog 8 #[.string s] w1 fun e w' => Below w1.heap.size w1 w' ∧
      ((∃ c : Int, c ≠ 0 ∧ e = .returned (.tuple #[.agg zCells, .int .i64 c])) ∨ ∃ z : Top, e = .returned (.tuple #[z.val, .int .i64 0]) ∧
        (∀ w2, Below w'.heap.size w' w2 → Calls Tryd.prog 7 #[z.val] w2 fun e w'' => e = .returned (.tuple #[.string s, .int .i64 0]) ∧ Below w2.heap.size w2 w''))) := fun w1 hb => by
    refine (decode_back s w1 hs (he.below hb)).mono ?_
    rintro e w' ⟨hb', h | ⟨z, rfl, h2, h3, h4⟩⟩
    · exact ⟨hb', .inl h⟩
    · refine ⟨hb', .inr ⟨z, rfl, fun w2 hb2 => ?_⟩⟩
      have := encTop_ok z w2 (((he.below hb).below hb').below hb2) (h2.below hb2) h3
      rw [h4] at this
      exact this
  have hTs : (⟨x.out.toArray⟩ : ByteArray).size ≤ 40000 := by
    rw [size_mk, Top.out]
    split
    · rename_i hc; exact enc_len he hc
    · simp
  have hUs : (⟨y.out.toArray⟩ : ByteArray).size ≤ 40000 := by
    rw [size_mk, Top.out]
    split
    · rename_i hc; exact enc_len he hc
    · simp
  generalize (⟨x.out.toArray⟩ : ByteArray) = T at *
  generalize (⟨y.out.toArray⟩ : ByteArray) = U at *
  generalize x.check = C at *
  generalize y.check = D at *
  obtain ⟨k, t, n, a, cap, rs⟩ := x
  obtain ⟨k', t', n', a', cap', rs'⟩ := y
  simp only [Top.val] at *
  generalize rs.length = len at *
  generalize rs'.length = len' at *
  clear hx hy
  go_enter Tryd.func4, Tryd.ntmps4
  go_wp2_with fail
  refine (HBG.out _ (((Below.refl _ w).alloc (Nat.le_refl _) _).alloc (by simp) _)).mono ?_
  rintro e w1 ⟨rfl, hb1⟩
  obtain ⟨hB0, hB1, hw1, hz1⟩ := two_below hb1
  clear hb1 HBG
  obtain ⟨c0, c1, c2, c3, f0, f1, f2, f3⟩ := four_of hB0
  clear f0 f1 f2 f3
  have HB0 := hide hB0
  have HB1 := hide hB1
  clear hB0 hB1
  go_wp2_with fail
  refine (HEX.out _ hw1).mono ?_
  rintro e w2 ⟨rfl, hb2⟩
  have hz2 := hb2.size
  have hw2 := hw1.trans (hb2.mono (by omega))
  have HC0 := hide ((hb2.block w.heap.size (by omega)).trans HB0.out)
  have hC1 := (hb2.block (w.heap.size + 1) (by omega)).trans HB1.out
  have HC1 := hide hC1
  clear c0 c1 c2 c3 HEX HB0 HB1 hb2
  obtain ⟨c0, c1, c2, c3, f0, f1, f2, f3⟩ := four_of hC1
  clear f0 f1 f2 f3 hC1
  go_wp2_with fail
  refine (HEY.out _ hw2).mono ?_
  rintro e w3 ⟨rfl, hb3⟩
  have hz3 := hb3.size
  have hw3 := hw2.trans (hb3.mono (by omega))
  have HD0 := hide ((hb3.block w.heap.size (by omega)).trans HC0.out)
  have HD1 := hide ((hb3.block (w.heap.size + 1) (by omega)).trans HC1.out)
  clear c0 c1 c2 c3 HEY HC0 HC1 hb3 hw2 hw1
  go_upto_if 28 with fail
  go_cut [11, 12] from 29 (fun _ _ wc => Below w.heap.size w wc)
  case first =>
    by_cases hC : C = 0
    · subst hC
      go_wp2_with fail
      refine (HDX.out trivial _ hw3).mono ?_
      rintro e w4 ⟨z, rfl, hb4, hsame⟩
      obtain ⟨zk, zt, zn, za, zcap, zrs⟩ := z
      have HS4 : Hid (∀ o, Calls Tryd.prog 14 #[.agg #[.int .i64 zk, .string zt, .int .i64 zn, .slice za zrs.length zcap], .agg #[.int .i64 k, .string t, .int .i64 n, .slice a len cap]] (w4.alloc o) fun e w'' => e = .returned (.bool true) ∧ Below (w4.alloc o).heap.size (w4.alloc o) w'') := fun o => hsame _ ((Below.refl _ w4).alloc (Nat.le_refl _) o)
      have hz4 := hb4.size
      have hw4 := hw3.trans (hb4.mono (by omega))
      have hE0 := (hb4.block w.heap.size (by omega)).trans HD0.out
      have hE1 := (hb4.block (w.heap.size + 1) (by omega)).trans HD1.out
      obtain ⟨c0, c1, c2, c3, f0, f1, f2, f3⟩ := four_of hE0
      have HE0 := hide hE0
      have HE1 := hide hE1
      clear f0 f1 f2 f3 hE0 hE1 hsame HDX hb4 HD0 HD1
      have k0 : ∀ o, (w4.alloc o).cell? ⟨w.heap.size, 0, none⟩ = some (.int .i64 k) := fun o => ((Kept.refl (fun _ => False) w4).alloc o).cell' c0 (fun e => e)
      have k1 : ∀ o, (w4.alloc o).cell? ⟨w.heap.size, 1, none⟩ = some (.string t) := fun o => ((Kept.refl (fun _ => False) w4).alloc o).cell' c1 (fun e => e)
      have k2 : ∀ o, (w4.alloc o).cell? ⟨w.heap.size, 2, none⟩ = some (.int .i64 n) := fun o => ((Kept.refl (fun _ => False) w4).alloc o).cell' c2 (fun e => e)
      have k3 : ∀ o, (w4.alloc o).cell? ⟨w.heap.size, 3, none⟩ = some (.slice a len cap) := fun o => ((Kept.refl (fun _ => False) w4).alloc o).cell' c3 (fun e => e)
      generalize zrs.length = zlen at *
      go_wp2_with fail
      refine (HS4.out _).mono ?_
      rintro e w5 ⟨rfl, hb5⟩
      have hz5 : w4.heap.size + 1 ≤ w5.heap.size := by have := hb5.size; simpa using this
      have h45 : Below w4.heap.size w4 w5 := ((Below.refl _ w4).alloc (Nat.le_refl _) _).trans (hb5.mono (by simp))
      have hw5 := hw4.trans (h45.mono (by omega))
      have hF0 := (h45.block w.heap.size (by omega)).trans HE0.out
      have hF1 := (h45.block (w.heap.size + 1) (by omega)).trans HE1.out
      clear k0 k1 k2 k3 c0 c1 c2 c3 HS4 HE0 HE1 hb5 h45
      by_cases hD : D = 0
      · subst hD
        by_cases hle : T.size ≤ U.size
        · have hsl := slice_to U T.size hle
          obtain ⟨F, hF⟩ : ∃ F : ByteArray, F = ⟨(U.data.toList.take T.size).toArray⟩ := ⟨_, rfl⟩
          rw [← hF] at hsl
          by_cases hq : F = T
          · have hpf : T.data.toList <+: U.data.toList := by
              rw [← hq, hF, mk_data]
              exact List.take_prefix _ _
            rw [hq] at hsl
            have HSS := hide (HSXY.out (by simp) (by simp) hpf w5 hw5)
            obtain ⟨c0, c1, c2, c3, f0, f1, f2, f3⟩ := four_of hF0
            obtain ⟨d0, d1, d2, d3, e0, e1, e2, e3⟩ := four_of hF1
            clear f0 f1 f2 f3 e0 e1 e2 e3 hF0 hF1 HSXY hq hpf hF
            go_wp2_with fail
            refine HSS.out.mono ?_
            rintro e w6 ⟨rfl, hb6⟩
            have hw6 := hw5.trans (hb6.mono (by omega))
            go_wp2_with fail
            go_meet
            case rel => exact hw6
          · have hqb : (F.toList == T.toList) = false := by
              rw [beq_eq_false_iff_ne]
              intro e
              rw [ByteArray.toList_eq, ByteArray.toList_eq] at e
              exact hq (ba_inj e)
            clear hq hF0 hF1 HSXY hF
            go_wp2_with fail
            go_meet
            case rel => exact hw5
        · clear hF0 hF1 HSXY
          go_wp2_with fail
          go_meet
          case rel => exact hw5
      · have hDb : (D == 0) = false := by rw [beq_eq_false_iff_ne]; exact hD
        clear hF0 hF1 HSXY
        go_wp2_with fail
        go_meet
        case rel => exact hw5
    · have hCb : (C == 0) = false := by rw [beq_eq_false_iff_ne]; exact hC
      go_wp2_with fail
      go_meet
      case rel => exact hw3
  case rest =>
    clear HDX HSXY HD0 HD1 hw3
    have hzc := hcut.size
    go_wp2_with fail
    refine (HDS.out _ hcut).mono ?_
    rintro e w4 ⟨hb4, ⟨c, hc0, rfl⟩ | ⟨z, rfl, henc⟩⟩
    · have hcb : (c == 0) = false := by rw [beq_eq_false_iff_ne]; exact hc0
      have hw4 := hcut.trans (hb4.mono (by omega))
      have hz4 := hw4.size
      clear hc0 HDS hb4
      unfold zCells
      go_wp2
      go_ret
      exact ⟨rfl, hw4.alloc (by omega) _⟩
    · have HN : Hid (∀ o, Calls Tryd.prog 7 #[z.val] (w4.alloc o) fun e w'' => e = .returned (.tuple #[.string s, .int .i64 0]) ∧ Below (w4.alloc o).heap.size (w4.alloc o) w'') := fun o => henc _ ((Below.refl _ w4).alloc (Nat.le_refl _) o)
      obtain ⟨zk, zt, zn, za, zcap, zrs⟩ := z
      have hw4 := hcut.trans (hb4.mono (by omega))
      have hz4 := hw4.size
      simp only [Top.val] at HN ⊢
      generalize zrs.length = zlen at *
      clear henc HDS hb4
      go_wp2_with fail
      refine (HN.out _).mono ?_
      rintro e w5 ⟨rfl, hb5⟩
      have hw5 : Below w.heap.size w w5 := (hw4.alloc (by omega) _).trans (hb5.mono (by simp; omega))
      clear HN hb5
      go_wp2
      go_ret
      exact ⟨rfl, hw5⟩
end Go.Proofs.YtolpmaapdkhigaaDoor
