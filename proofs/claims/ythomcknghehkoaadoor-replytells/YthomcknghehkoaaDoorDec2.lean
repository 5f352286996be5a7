/- WALK of number. -/
import Derived.Test.YthomcknghehkoaaDoorDec1
import Derived.Lib.AtoiErrMem
namespace Go.Proofs.YthomcknghehkoaaDoor
open Go.RowKit

theorem gTab : Tryd.prog.globalNamed "internal/strconv.uint64pow10" = some 0 := by kernel_rfl

/-- What the library's variables hold. -/
structure Env (w : World) : Prop where
  tab : Lib.TabIs Tryd.prog w "internal/strconv.uint64pow10" .u64 Lib.pow10Tab
  e3 : ∃ ev, w.cell? ⟨3, 0, none⟩ = some ev ∧ (ev = .nilIface ∨ ∃ te pe, ev = .iface te pe)
  e4 : ∃ ev, w.cell? ⟨4, 0, none⟩ = some ev ∧ (ev = .nilIface ∨ ∃ te pe, ev = .iface te pe)
  lt : 5 ≤ w.heap.size

theorem Env.kept {S : Nat → Prop} {w w' : World} (h : Env w) (hk : Kept S w w') (hS : ∀ k, S k → 5 ≤ k) : Env w' := by
  have hlt := h.lt
  refine ⟨?_, ?_, ?_, Nat.le_trans hlt hk.size⟩
  · have ht := h.tab
    unfold Lib.TabIs World.var? at *
    rw [gTab] at ht ⊢
    simp only [Option.bind_some] at ht ⊢
    rw [hk.block 0 (by omega) (fun e => by have := hS _ e; omega)]
    exact ht
  · obtain ⟨ev, h1, h2⟩ := h.e3
    exact ⟨ev, hk.cell' h1 (fun e => by have := hS _ e; simp only at this; omega), h2⟩
  · obtain ⟨ev, h1, h2⟩ := h.e4
    exact ⟨ev, hk.cell' h1 (fun e => by have := hS _ e; simp only at this; omega), h2⟩
theorem Env.below {w w' : World} (h : Env w) (hb : Below w.heap.size w w') : Env w' := h.kept (Kept.of_below hb (fun _ => False)) (fun _ e => e.elim)

/-- the number that a text tells -/
def pInt (x : List UInt8) : Option Int :=
  match Lib.atoiAll x with
  | .ok v => if Lib.itoa v = x ∧ -999999999 ≤ v ∧ v ≤ 999999999 then some v else none
  | _ => none
def pNumber (l : List UInt8) : Except Nat (Int × List UInt8) :=
  match pLine l with
  | .error e => .error e
  | .ok (x, q) => match pInt x with
    | some v => .ok (v, q)
    | none => .error 1

theorem atoi_bounds {x : List UInt8} {v : Int} (h : Lib.atoiAll x = .ok v) : -9223372036854775808 ≤ v ∧ v ≤ 9223372036854775807 := by
  unfold Lib.atoiAll at h
  split at h
  · simp at h
  · simp only at h
    split at h
    · simp at h
    · simp at h
    · split at h
      · simp at h
      · split at h
        · simp at h
        · simp only [Lib.NumEnd.ok.injEq] at h
          subst h
          split <;> omega

theorem itoa_any (n : Int) (w : World) (h0 : -9223372036854775808 ≤ n) (h1 : n ≤ 9223372036854775807) (he : Env w) :
    Calls Tryd.prog 25 #[.int .i64 n] w fun e w' => e = .returned (.string ⟨(Lib.itoa n).toArray⟩) ∧ Below w.heap.size w w' := by
  refine (Tryd.strconv_Itoa n h0 h1 w he.tab).mono ?_
  rintro e w' ⟨rfl, k, os, rfl⟩
  refine ⟨rfl, rfl, rfl, rfl, ?_, fun i hi => ?_⟩
  · show w.heap.size ≤ (w.heap ++ os).size
    simp
  · show (w.heap ++ os)[i]? = w.heap[i]?
    rw [Array.getElem?_append_left hi]

/-- Atoi: a number, or an error -/
theorem atoi_ok (x : List UInt8) (v : Int) (w : World) (hx : x.length ≤ 281474976710656) (h : Lib.atoiAll x = .ok v) :
    Calls Tryd.prog 74 #[.string ⟨x.toArray⟩] w fun e w' => e = .returned (.tuple #[.int .i64 v, .nilIface]) ∧ Below w.heap.size w w' := by
  refine (Tryd.strconv_Atoi_ok ⟨x.toArray⟩ (by rw [size_mk]; omega) v (by rw [toList_mk]; exact h) w).mono ?_
  rintro e w' ⟨rfl, h2⟩
  refine ⟨rfl, ?_⟩
  rcases h2 with rfl | ⟨t, rfl⟩
  · exact Below.refl _ _
  · exact Lib.bytesWorld_below _ _ _
theorem atoi_bad (x : List UInt8) (w : World) (hx : x.length ≤ 281474976710656) (h : ∀ v, Lib.atoiAll x ≠ .ok v) (he : Env w) :
    Calls Tryd.prog 74 #[.string ⟨x.toArray⟩] w fun e w' => ∃ n T a, e = .returned (.tuple #[.int .i64 n, .iface T (.pointer (some a))]) ∧ Below w.heap.size w w' := by
  obtain ⟨ev3, h3, i3⟩ := he.e3
  obtain ⟨ev4, h4, i4⟩ := he.e4
  cases hc : Lib.atoiAll x with
  | ok v => exact absurd hc (h v)
  | range =>
    refine (Tryd.strconv_Atoi_range ⟨x.toArray⟩ (by rw [size_mk]; exact hx) (by rw [toList_mk]; exact hc) ev4 w h4 i4).mono ?_
    rintro e w' ⟨N, rfl, _, _, hb⟩
    exact ⟨_, _, _, rfl, hb⟩
  | _ =>
    refine (Tryd.strconv_Atoi_syntax ⟨x.toArray⟩ (by rw [size_mk]; exact hx) (by rw [toList_mk]; exact hc) ev3 w h3 i3).mono ?_
    rintro e w' ⟨N, rfl, _, _, hb⟩
    exact ⟨_, _, _, rfl, hb⟩

set_option maxRecDepth 100000 in
set_option maxHeartbeats 1000000 in
theorem number_any (b : Nat) (s : ByteArray) (l : List UInt8) (w : World) (h : AtL b s l w) (hs : s.size ≤ 281474976710656) (he : Env w) (hb5 : 5 ≤ b) :
    Calls Tryd.prog 63 #[.pointer (some ⟨b, 0, none⟩)] w fun e w' => Kept (one b) w w' ∧
      (∀ v q, pNumber l = .ok (v, q) → e = .returned (.int .i64 v) ∧ AtL b s q w') ∧ (∀ n, pNumber l = .error n → e = .panicked [{ v := .iface 72 (.agg #[.int .i64 (n)]), recovered := false }]) := by
  have hl := h.len
  cases hp : pLine l with
  | error x =>
    have HP : Hid (pNumber l = .error x) := by simp only [Hid, pNumber, hp]
    go_enter Tryd.func63, Tryd.ntmps63
    go_wp2_with (go_at_call 64; refine (line_err b s l x w h hs hp).mono ?_; rintro e w1 ⟨rfl, hk1⟩)
    exact ⟨rfl, hk1, fun v q hx => by rw [HP.out] at hx; simp at hx, fun n hx => by rw [HP.out] at hx; simp at hx; subst hx; rfl⟩
  | ok y =>
    obtain ⟨x, q⟩ := y
    obtain ⟨hlen, _⟩ := pLine_len l x q hp
    have hxl : x.length ≤ 281474976710656 := by omega
    by_cases hok : ∃ v, Lib.atoiAll x = .ok v
    · obtain ⟨v, hv⟩ := hok
      obtain ⟨hv1, hv2⟩ := atoi_bounds hv
      by_cases hi : Lib.itoa v = x
      · by_cases hr : -999999999 ≤ v ∧ v ≤ 999999999
        · have HP : Hid (pNumber l = .ok (v, q)) := by
            simp only [Hid, pNumber, hp, pInt, hv]
            rw [if_pos ⟨hi, hr⟩]
          obtain ⟨hr1, hr2⟩ := hr
          have HV := hide hv
          have HH := hide h
          have HPL := hide hp
          clear hv h hp hlen
          go_enter Tryd.func63, Tryd.ntmps63
          go_wp2_with fail
          refine (line_ok b s l x q w HH.out hs HPL.out).mono ?_
          rintro e w1 ⟨rfl, ha1, hk1⟩
          go_wp2_with fail
          refine (atoi_ok x v w1 hxl HV.out).mono ?_
          rintro e w2 ⟨rfl, hb2⟩
          have he2 : Env w2 := (he.kept hk1 (fun k e => by simp only [one] at e; omega)).below hb2
          go_wp2_with fail
          refine (itoa_any v w2 hv1 hv2 he2).mono ?_
          rintro e w3 ⟨rfl, hb3⟩
          rw [hi]
          have ha3 : AtL b s q w3 := (ha1.kept (Kept.of_below hb2 (fun _ => False)) (fun e => e)).kept (Kept.of_below hb3 (fun _ => False)) (fun e => e)
          have hk3 : Kept (one b) w w3 := (hk1.trans (Kept.of_below hb2 _)).trans (Kept.of_below hb3 _)
          go_wp2_with fail
          go_ret
          refine ⟨hk3, fun v' q' hx => ?_, fun n hx => by rw [HP.out] at hx; simp at hx⟩
          rw [HP.out] at hx
          simp at hx
          obtain ⟨rfl, rfl⟩ := hx
          exact ⟨rfl, ha3⟩
        · have HP : Hid (pNumber l = .error 1) := by
            simp only [Hid, pNumber, hp, pInt, hv]
            rw [if_neg (fun hh => hr hh.2)]
          have hr' : v < -999999999 ∨ 999999999 < v := by omega
          clear hr
          have HV := hide hv
          have HH := hide h
          have HPL := hide hp
          clear hv h hp hlen
          go_enter Tryd.func63, Tryd.ntmps63
          go_wp2_with fail
          refine (line_ok b s l x q w HH.out hs HPL.out).mono ?_
          rintro e w1 ⟨rfl, ha1, hk1⟩
          go_wp2_with fail
          refine (atoi_ok x v w1 hxl HV.out).mono ?_
          rintro e w2 ⟨rfl, hb2⟩
          have he2 : Env w2 := (he.kept hk1 (fun k e => by simp only [one] at e; omega)).below hb2
          go_wp2_with fail
          refine (itoa_any v w2 hv1 hv2 he2).mono ?_
          rintro e w3 ⟨rfl, hb3⟩
          rw [hi]
          rcases hr' with hr' | hr'
          all_goals
            have hk3 : Kept (one b) w w3 := (hk1.trans (Kept.of_below hb2 _)).trans (Kept.of_below hb3 _)
            go_wp2_with (go_at_call 48; refine (giveUp_any _ _).mono ?_; rintro e w' ⟨rfl, rfl⟩)
            all_goals exact ⟨rfl, hk3, fun v' q' hx => by rw [HP.out] at hx; simp at hx, fun n hx => by rw [HP.out] at hx; simp at hx; subst hx; rfl⟩
      · have HP : Hid (pNumber l = .error 1) := by
          simp only [Hid, pNumber, hp, pInt, hv]
          rw [if_neg (fun hh => hi hh.1)]
        have hib : (!Lib.itoa v == x) = true := by simp [hi]
        clear hi
        have HV := hide hv
        have HH := hide h
        have HPL := hide hp
        clear hv h hp hlen
        go_enter Tryd.func63, Tryd.ntmps63
        go_wp2_with fail
        refine (line_ok b s l x q w HH.out hs HPL.out).mono ?_
        rintro e w1 ⟨rfl, ha1, hk1⟩
        go_wp2_with fail
        refine (atoi_ok x v w1 hxl HV.out).mono ?_
        rintro e w2 ⟨rfl, hb2⟩
        have he2 : Env w2 := (he.kept hk1 (fun k e => by simp only [one] at e; omega)).below hb2
        go_wp2_with fail
        refine (itoa_any v w2 hv1 hv2 he2).mono ?_
        rintro e w3 ⟨rfl, hb3⟩
        have hk3 : Kept (one b) w w3 := (hk1.trans (Kept.of_below hb2 _)).trans (Kept.of_below hb3 _)
        go_wp2_with (go_at_call 48; refine (giveUp_any _ _).mono ?_; rintro e w' ⟨rfl, rfl⟩)
        all_goals exact ⟨rfl, hk3, fun v' q' hx => by rw [HP.out] at hx; simp at hx, fun n hx => by rw [HP.out] at hx; simp at hx; subst hx; rfl⟩
    · have HP : Hid (pNumber l = .error 1) := by
        simp only [Hid, pNumber, hp, pInt]
        split
        · rename_i v hv; split at hv
          · rename_i u hu; exact absurd ⟨u, hu⟩ hok
          · simp at hv
        · rfl
      have HH := hide h
      have HPL := hide hp
      have HOK : Hid (∀ v, Lib.atoiAll x ≠ .ok v) := fun v hv => hok ⟨v, hv⟩
      clear hok h hp hlen
      go_enter Tryd.func63, Tryd.ntmps63
      go_wp2_with fail
      refine (line_ok b s l x q w HH.out hs HPL.out).mono ?_
      rintro e w1 ⟨rfl, ha1, hk1⟩
      have he1 : Env w1 := he.kept hk1 (fun k e => by simp only [one] at e; omega)
      go_wp2_with fail
      refine (atoi_bad x w1 hxl HOK.out he1).mono ?_
      rintro e w2 ⟨nn, T, ad, rfl, hb2⟩
      have hk2 : Kept (one b) w w2 := hk1.trans (Kept.of_below hb2 _)
      go_wp2_with (go_at_call 48; refine (giveUp_any _ _).mono ?_; rintro e w' ⟨rfl, rfl⟩)
      exact ⟨rfl, hk2, fun v' q' hx => by rw [HP.out] at hx; simp at hx, fun n hx => by rw [HP.out] at hx; simp at hx; subst hx; rfl⟩

theorem number_ok (b : Nat) (s : ByteArray) (l q : List UInt8) (v : Int) (w : World) (h : AtL b s l w) (hs : s.size ≤ 281474976710656) (he : Env w) (hb5 : 5 ≤ b) (hp : pNumber l = .ok (v, q)) :
    Calls Tryd.prog 63 #[.pointer (some ⟨b, 0, none⟩)] w fun e w' => e = .returned (.int .i64 v) ∧ AtL b s q w' ∧ Kept (one b) w w' :=
  (number_any b s l w h hs he hb5).mono fun _ _ ⟨h1, h2, _⟩ => ⟨(h2 v q hp).1, (h2 v q hp).2, h1⟩
theorem number_err (b : Nat) (s : ByteArray) (l : List UInt8) (n : Nat) (w : World) (h : AtL b s l w) (hs : s.size ≤ 281474976710656) (he : Env w) (hb5 : 5 ≤ b) (hp : pNumber l = .error n) :
    Calls Tryd.prog 63 #[.pointer (some ⟨b, 0, none⟩)] w fun e w' => e = .panicked [{ v := .iface 72 (.agg #[.int .i64 (n)]), recovered := false }] ∧ Kept (one b) w w' :=
  (number_any b s l w h hs he hb5).mono fun _ _ ⟨h1, _, h2⟩ => ⟨h2 n hp, h1⟩
theorem pNumber_bounds {l q : List UInt8} {v : Int} (h : pNumber l = .ok (v, q)) : -999999999 ≤ v ∧ v ≤ 999999999 ∧ q <:+ l ∧ q.length + 2 ≤ l.length := by
  unfold pNumber at h
  split at h
  · simp at h
  · rename_i x q' hp
    split at h
    · rename_i u hu
      simp at h
      obtain ⟨rfl, rfl⟩ := h
      obtain ⟨h1, h2⟩ := pLine_len _ _ _ hp
      unfold pInt at hu
      split at hu
      · split at hu
        · rename_i hc
          simp at hu
          subst hu
          exact ⟨hc.2.1, hc.2.2, h2, by omega⟩
        · simp at hu
      · simp at hu
    · simp at h
end Go.Proofs.YthomcknghehkoaaDoor
