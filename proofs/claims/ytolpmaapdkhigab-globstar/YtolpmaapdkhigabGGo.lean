/- WALK of matches. -/
import Derived.Test.YtolpmaapdkhigabGMatch
import Derived.Handy
namespace Go.Proofs.Ytolpmaapdkhigab
open Go.RowKit

theorem PartsAt.below {base : Nat} {w w' : World} {V : Value} {ps : List (Value × Part)} (h : PartsAt base w V ps) (hb : Below w.heap.size w w') : PartsAt base w' V ps :=
  h.kept (Kept.of_below hb (fun _ => False)) (Nat.le_refl _) (fun _ e => e.elim)
theorem parts_cells {base : Nat} {w : World} {a : Option Addr} {cap : Nat} {ps : List (Value × Part)} (h : PartsAt base w (.slice a ps.length cap) ps) (k : Nat) (hk : k < ps.length) :
    ∃ g f caps, a = some ⟨g, 0, none⟩ ∧ w.cell? ⟨g, k * 2, none⟩ = some (.bool ps[k].2.many) ∧ w.cell? ⟨g, k * 2 + 1, none⟩ = some (.func (.func f) #[] caps) ∧ g < w.heap.size ∧ (f = 76 ∨ f = 78 ∨ f = 90) ∧
      ∀ (c : UInt8) (W : World), Below w.heap.size w W → Calls Try.prog f (#[.int .u8 c.toNat] ++ caps) W fun e w' => e = .returned (.bool (ps[k].2.may c)) ∧ Below W.heap.size W w' := by
  rcases h.row.2 with ⟨hv, hn⟩ | ⟨g, cap', cur, hv, _, _, hcap, _⟩
  · omega
  · simp at hv
    obtain ⟨rfl, rfl⟩ := hv
    have hl : (partRow ps).length = ps.length * 2 := h.row.1
    obtain ⟨g0, g1⟩ := partRow_get ps k hk
    obtain ⟨f, caps, hf, hf3, hc⟩ := (h.fns ps[k] (List.getElem_mem hk)).calls
    have c0 := (h.row.cellAt (k * 2) (by omega)).trans g0
    have c1 := (h.row.cellAt (k * 2 + 1) (by omega)).trans g1
    rw [hf] at c1
    exact ⟨g, f, caps, rfl, c0, c1, World.block_lt_of_cell? _ _ c0, hf3, hc⟩
def starVal : Option Nat → Int
  | none => -1
  | some k => k
theorem starVal_lo (o : Option Nat) : -1 ≤ starVal o := by cases o <;> simp [starVal] <;> omega

set_option maxRecDepth 100000 in
set_option maxHeartbeats 1000000 in
theorem matches_any (a : Option Addr) (cap base : Nat) (ps : List (Value × Part)) (s : ByteArray) (w : World) (h : PartsAt base w (.slice a ps.length cap) ps) (hn : ps.length ≤ 60) (hs : s.size ≤ 60) :
    Calls Try.prog 18 #[.slice a ps.length cap, .string s] w fun e w' => e = .returned (.bool (mat (ps.map Prod.snd) s.data.toList)) ∧ Below w.heap.size w w' := by
  have HPA := hide h
  have hsl := slice_parts
  have hls := size_list s
  have hlp : (ps.map Prod.snd).length = ps.length := by simp
  clear h
  go_enter Try.func18, Try.ntmps18
  go_wp2_with fail
  go_loopw [5, 6, 7, 8] (fun va vs vf vi wr => ∃ (at_ : Nat) (star : Option Nat) (from_ i : Nat), va = .int .i64 at_ ∧ vs = .int .i64 (starVal star) ∧ vf = .int .i64 from_ ∧ vi = .int .i64 i ∧ from_ ≤ i ∧ at_ ≤ ps.length ∧ i ≤ s.size ∧ starVal star < at_ ∧ Below w.heap.size w wr ∧ Hid (Stand (ps.map Prod.snd) s.data.toList at_ star from_ i)) (fun _ vs vf vi _ => (ps.length + 1 - (intOf vs + 1).toNat) * 4000 + (s.size - (intOf vf).toNat) * 62 + (s.size - (intOf vi).toNat))
  case atStart => exact ⟨0, none, 0, 0, rfl, rfl, rfl, rfl, Nat.le_refl _, Nat.zero_le _, Nat.zero_le _, by simp [starVal], Below.refl _ _, stand_begin _ _⟩
  case round =>
    obtain ⟨at_, star, from_, i, rfl, rfl, rfl, rfl, hfi, hat, hile, hsa, hb, HS⟩ := hrel
    have hlo := starVal_lo star
    by_cases hi : i < s.size
    · have hi' : i < s.data.toList.length := by rw [size_list]; exact hi
      by_cases ha : at_ < ps.length
      · have ha' : at_ < (ps.map Prod.snd).length := by simpa using ha
        have hgp : (ps.map Prod.snd)[at_] = ps[at_].2 := by simp
        obtain ⟨g, f, caps, rfl, c0, c1, hgl, hf3, hcall⟩ := parts_cells HPA.out at_ ha
        have d0 := (hb.cell (p := ⟨g, at_ * 2, none⟩) hgl).trans c0
        have d1 := (hb.cell (p := ⟨g, at_ * 2 + 1, none⟩) hgl).trans c1
        clear c0 c1
        cases hm : ps[at_].2.many with
        | true =>
          have HS2 : Hid (Stand (ps.map Prod.snd) s.data.toList (at_ + 1) (some at_) i i) := stand_star HS.out ha' (by rw [hgp]; exact hm)
          rw [hm] at d0
          clear hcall d1 hm hgp ha' hi'
          generalize starVal star = sv at *
          go_wp2_with fail
          go_roundw
          case rel => exact ⟨at_ + 1, some at_, i, i, by go_num, rfl, rfl, rfl, Nat.le_refl _, by omega, by omega, by simp [starVal]; omega, hb, HS2⟩
          case measure => simp [intOf] at *; omega
        | false =>
          have HC : Hid (∀ W, Below w.heap.size w W → Calls Try.prog f (#[.int .u8 s[i].toNat] ++ caps) W fun e w' => e = .returned (.bool (ps[at_].2.may s[i])) ∧ Below W.heap.size W w') := fun W hW => hcall s[i] W hW
          rw [hm] at d0
          have hzr := hb.size
          have hbd : Below w.heap.size w wr.drew := hb.drew
          clear hcall
          generalize hr : ps[at_].2.may s[i] = R at *
          go_wp2_with fail
          have hdec : decide (((at_ : Nat) : Int) < ((ps.length : Nat) : Int)) = true := decide_eq_true (by omega)
          rcases hf3 with rfl | rfl | rfl
          all_goals
            refine wp_region_any (by kernel_rfl) ?_
            change wpAny _ _ _ _ _ _ _ (World.drew _)
            refine wpAny_take (i := 0) (v := .int .i64 at_) rfl (by kernel_rfl) (by kernel_rfl) (by kernel_rfl) (fun _ _ _ h => h) (Or.inl ⟨by rfl, by intro w; go_simp⟩) ?_
            refine wpAny_take (i := 1) (v := .slice (some ⟨g, 0, none⟩) ps.length cap) rfl (by kernel_rfl) (by kernel_rfl) (by kernel_rfl) (fun _ _ _ h => h) (Or.inl ⟨by rfl, by intro w; go_simp⟩) ?_
            refine wpAny_take (i := 2) (v := .int .i64 ps.length) rfl (by kernel_rfl) (by kernel_rfl) (by kernel_rfl) (fun _ _ _ h => h) (Or.inl ⟨by rfl, by intro w; go_simp⟩) ?_
            refine wpAny_take (i := 3) (v := .bool true) rfl (by kernel_rfl) (by kernel_rfl) (by kernel_rfl) (fun _ _ _ h => h) (Or.inl ⟨by rfl, by intro w; go_simp⟩) ?_
            refine wpAny_take (i := 4) (v := .bool true) rfl (by kernel_rfl) (by kernel_rfl) (by kernel_rfl) (fun _ _ _ h => h) (Or.inl ⟨by rfl, by intro w; go_simp⟩) ?_
            refine wpAny_take (i := 5) (v := .slice (some ⟨g, 0, none⟩) ps.length cap) rfl (by kernel_rfl) (by kernel_rfl) (by kernel_rfl) (fun _ _ _ h => h) (Or.inl ⟨by kernel_rfl, by intro w; go_simp⟩) ?_
            refine wpAny_take (i := 6) (v := .int .i64 at_) rfl (by kernel_rfl) (by kernel_rfl) (by kernel_rfl) (fun _ _ _ h => h) (Or.inl ⟨by kernel_rfl, by intro w; go_simp⟩) ?_
            refine wpAny_take (i := 7) (v := .pointer (some ⟨g, at_ * 2, none⟩)) rfl (by kernel_rfl) (by kernel_rfl) (by kernel_rfl) (fun _ _ _ h => h) (Or.inl ⟨by kernel_rfl, by intro w; go_simp⟩) ?_
            refine wpAny_take (i := 8) (v := .pointer (some ⟨g, at_ * 2 + 1, none⟩)) rfl (by kernel_rfl) (by kernel_rfl) (by kernel_rfl) (fun _ _ _ h => h) (Or.inl ⟨by kernel_rfl, by intro w; go_simp⟩) ?_
            refine wpAny_take (i := 10) (v := .string s) rfl (by kernel_rfl) (by kernel_rfl) (by kernel_rfl) (fun _ _ _ h => h) (Or.inl ⟨by kernel_rfl, by intro w; go_simp⟩) ?_
            refine wpAny_take (i := 11) (v := .int .i64 i) rfl (by kernel_rfl) (by kernel_rfl) (by kernel_rfl) (fun _ _ _ h => h) (Or.inl ⟨by kernel_rfl, by intro w; go_simp⟩) ?_
            refine wpAny_take (i := 12) (v := .int .u8 s[i].toNat) rfl (by kernel_rfl) (by kernel_rfl) (by kernel_rfl) (fun _ _ _ h => h) (Or.inl ⟨by kernel_rfl, by intro w; go_simp⟩) ?_
            refine wpAny_ready (rs := [9]) (by kernel_rfl) (by simp) ?_
            refine AllReady.cons rfl (fun K hK => ?_) AllReady.nil
            go_simp
            refine hK _ _ ?_
            clear hK K
            refine wpAny_ready (rs := [13]) (by kernel_rfl) (by simp) ?_
            refine AllReady.cons rfl (fun K hK => ?_) AllReady.nil
            go_simp
            refine (HC.out _ hbd).mono ?_
            rintro e w1 ⟨rfl, hb1⟩
            refine hK _ _ ?_
            clear hK K
            refine wpAny_take (i := 14) (v := .bool R) rfl (by kernel_rfl) (by kernel_rfl) (by kernel_rfl) (fun _ _ _ h => h) (Or.inl ⟨by rfl, by intro w; go_simp⟩) ?_
            refine wpAny_take (i := 15) (v := .bool R) rfl (by kernel_rfl) (by kernel_rfl) (by kernel_rfl) (fun _ _ _ h => h) (Or.inl ⟨by rfl, by intro w; go_simp⟩) ?_
            refine wpAny_done (by kernel_rfl) ?_ _
            have hb2 : Below w.heap.size w w1 := hbd.trans (hb1.mono (show w.heap.size ≤ wr.drew.heap.size from hzr))
            cases R with
            | true =>
              have HS2 : Hid (Stand (ps.map Prod.snd) s.data.toList (at_ + 1) star from_ (i + 1)) := stand_step HS.out ha' (by rw [hgp]; exact hm) hi' (by rw [hgp]; exact hr)
              generalize hsv : starVal star = sv at *
              go_wp2_with fail
              go_roundw
              case rel => exact ⟨at_ + 1, star, from_, i + 1, by go_num, by rw [hsv], rfl, by go_num, by omega, by omega, by omega, by rw [hsv]; omega, hb2, HS2⟩
              case measure => simp only [intOf]; omega
            | false =>
              have HNO : Hid (mat ((ps.map Prod.snd).drop at_) (s.data.toList.drop i) = false) := stand_miss (by omega) hi' (fun _ => ⟨ha', by rw [hgp]; exact hm, by rw [hgp]; exact hr⟩)
              cases star with
              | none =>
                have HV := hide (stand_none HS.out HNO.out)
                simp only [starVal] at *
                go_wp2_with fail
                go_ret
                rw [HV.out]
                exact ⟨rfl, hb2⟩
              | some k =>
                have HS2 := hide (stand_back HS.out (by rw [size_list]; omega) HNO.out)
                have hfs := (HS.out.some k rfl).2.1
                simp only [starVal] at *
                go_wp2_with fail
                go_roundw
                case rel => exact ⟨k + 1, some k, from_ + 1, from_ + 1, by go_num, rfl, by go_num, by go_num, by omega, by omega, by omega, by simp [starVal]; omega, hb2, HS2⟩
                case measure => simp only [intOf, starVal]; omega
      · have hdec : decide (((at_ : Nat) : Int) < ((ps.length : Nat) : Int)) = false := decide_eq_false (by omega)
        have hdec' : ¬ ((at_ : Nat) : Int) < ((ps.length : Nat) : Int) := by omega
        have HNO : Hid (mat ((ps.map Prod.snd).drop at_) (s.data.toList.drop i) = false) := stand_miss (by omega) hi' (fun hlt => absurd hlt (by omega))
        have hbd : ∀ n, Below w.heap.size w (wr.drewN n) := fun n => ⟨hb.os, hb.tape, hb.output, hb.size, hb.block⟩
        clear hi'
        go_wp2_with fail
        go_quiet (fail)
        cases star with
        | none =>
          have HV := hide (stand_none HS.out HNO.out)
          simp only [starVal] at *
          go_wp2_with fail
          go_ret
          rw [HV.out]
          exact ⟨rfl, hbd _⟩
        | some k =>
          have HS2 := hide (stand_back HS.out (by rw [size_list]; omega) HNO.out)
          simp only [starVal] at *
          go_wp2_with fail
          go_roundw
          case rel => exact ⟨k + 1, some k, from_ + 1, from_ + 1, by go_num, rfl, by go_num, by go_num, by omega, by omega, by omega, by simp [starVal]; omega, hbd _, HS2⟩
          case measure => simp only [intOf, starVal]; omega
    · have hie : i = s.size := by omega
      have HV : Hid (mat (ps.map Prod.snd) s.data.toList = ((ps.map Prod.snd).drop at_).all Part.many) := stand_end HS.out (by rw [size_list]; exact hie)
      have hml : ((ps.drop at_).map fun x => x.2.many).length = ps.length - at_ := by simp
      have HCP : Hid (Calls Try.prog 47 #[.slice (tailA a cap at_) (ps.length - at_) (cap - at_), .func (.func 48) #[] #[]] wr fun e w' => e = .returned (.bool (!(((ps.map Prod.snd).drop at_).all Part.many))) ∧ Below wr.heap.size wr w') := by
        have h1 := containsPart_any (tailA a cap at_) (cap - at_) ((ps.drop at_).map fun x => x.2.many) wr (marks_of (HPA.out.below hb) hat) (by rw [hml]; omega)
        rw [hml] at h1
        have h2 : ((ps.drop at_).map fun x => x.2.many).any (!·) = !(((ps.map Prod.snd).drop at_).all Part.many) := by
          rw [← List.map_drop, List.any_map, List.all_map, List.not_all_eq_any_not]
          rfl
        rw [h2] at h1
        exact h1
      have hslk := fun W => hsl W a ps.length cap at_ hat
      generalize ((ps.map Prod.snd).drop at_).all Part.many = R at *
      generalize tailA a cap at_ = ta at *
      have hzr := hb.size
      clear hsl HS
      go_wp2_with fail
      refine HCP.out.mono ?_
      rintro e w1 ⟨rfl, hb1⟩
      go_wp2_with fail
      go_ret
      rw [HV.out]
      exact ⟨by simp, hb.trans (hb1.mono hzr)⟩
end Go.Proofs.Ytolpmaapdkhigab
