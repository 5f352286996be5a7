/- Part 7 of what the proof leans on: Num, EChk, ELet, Check1, Check2, Shelf, Build1, Enc1, Enc2, Words, Words2, EFnd. -/
import Derived.Test.YtmaancidkpfopaaGreatDoorPart2
import Derived.Test.YtmaancidkpfopaaGreatDoorPart3
import Derived.Test.YtmaancidkpfopaaGreatDoorPart4
import Derived.Test.YtmaancidkpfopaaGreatDoorPart5
import Derived.Test.YtmaancidkpfopaaGreatDoorPart1
import Derived.Test.YtmaancidkpfopaaGreatDoorPart6
import Derived.Lib.AtoiErrMem
import Derived.Handy
import Derived.Test.YtmaancidkpfopaaGreatDoorProg
import Derived.Laws.IdiomStrings
import Derived.Deep.RegionWith
import Derived.Shelf.Strings.Builder1
import Derived.Shelf.LaysM
import Derived.Shelf.Strconv.Itoa3
import Derived.Shelf.Strconv.Clone
import Derived.Lib.Builder
import Derived.Lib.AppendStr
import Derived.Laws.Externs
/- WALKS of the numbers that texts tell. -/
namespace Go.Proofs.YtmaancidkpfopaaGreatDoor
open Go.RowKit

theorem gTab : Tryz.prog.globalNamed "internal/strconv.uint64pow10" = some 3 := by kernel_rfl

/-- What the library's variables hold. -/
structure Env (w : World) : Prop where
  tab : Lib.TabIs Tryz.prog w "internal/strconv.uint64pow10" .u64 Lib.pow10Tab
  e3 : ∃ ev, w.cell? ⟨1, 0, none⟩ = some ev ∧ (ev = .nilIface ∨ ∃ te pe, ev = .iface te pe)
  e4 : ∃ ev, w.cell? ⟨2, 0, none⟩ = some ev ∧ (ev = .nilIface ∨ ∃ te pe, ev = .iface te pe)
  lt : 3 + 1 ≤ w.heap.size

theorem Env.kept {S : Nat → Prop} {w w' : World} (h : Env w) (hk : Kept S w w') (hS : ∀ k, S k → 3 + 1 ≤ k) : Env w' := by
  have hlt := h.lt
  refine ⟨?_, ?_, ?_, Nat.le_trans hlt hk.size⟩
  · have ht := h.tab
    unfold Lib.TabIs World.var? at *
    rw [gTab] at ht ⊢
    simp only [Option.bind_some] at ht ⊢
    rw [hk.block 3 (by omega) (fun e => by have := hS _ e; omega)]
    exact ht
  · obtain ⟨ev, h1, h2⟩ := h.e3
    exact ⟨ev, hk.cell' h1 (fun e => by have := hS _ e; simp only at this; omega), h2⟩
  · obtain ⟨ev, h1, h2⟩ := h.e4
    exact ⟨ev, hk.cell' h1 (fun e => by have := hS _ e; simp only at this; omega), h2⟩
theorem Env.below {w w' : World} (h : Env w) (hb : Below w.heap.size w w') : Env w' := h.kept (Kept.of_below hb (fun _ => False)) (fun _ e => e.elim)

/-- the number that a text tells -/
def pInt (x : List UInt8) : Option Int :=
  match Lib.atoiAll x with
  | .ok v => if Lib.itoa v = x ∧ -999999999 ≤ v ∧ v ≤ 999999999 then some v else none
  | _ => none
theorem atoi_bounds {x : List UInt8} {v : Int} (h : Lib.atoiAll x = .ok v) : -9223372036854775808 ≤ v ∧ v ≤ 9223372036854775807 := by
  unfold Lib.atoiAll at h
  split at h
  · simp at h
  · simp only at h
    split at h
    · simp at h
    · simp at h
    · split at h
      · simp at h
      · split at h
        · simp at h
        · simp only [Lib.NumEnd.ok.injEq] at h
          subst h
          split <;> omega

theorem itoa_any (n : Int) (w : World) (h0 : -9223372036854775808 ≤ n) (h1 : n ≤ 9223372036854775807) (he : Env w) :
    Calls Tryz.prog 53 #[.int .i64 n] w fun e w' => e = .returned (.string ⟨(Lib.itoa n).toArray⟩) ∧ Below w.heap.size w w' := by
  refine (Tryz.strconv_Itoa n h0 h1 w he.tab).mono ?_
  rintro e w' ⟨rfl, k, os, rfl⟩
  refine ⟨rfl, rfl, rfl, rfl, ?_, fun i hi => ?_⟩
  · show w.heap.size ≤ (w.heap ++ os).size
    simp
  · show (w.heap ++ os)[i]? = w.heap[i]?
    rw [Array.getElem?_append_left hi]

/-- Atoi: a number, or an error -/
theorem atoi_ok (x : List UInt8) (v : Int) (w : World) (hx : x.length ≤ 281474976710656) (h : Lib.atoiAll x = .ok v) :
    Calls Tryz.prog 129 #[.string ⟨x.toArray⟩] w fun e w' => e = .returned (.tuple #[.int .i64 v, .nilIface]) ∧ Below w.heap.size w w' := by
  refine (Tryz.strconv_Atoi_ok ⟨x.toArray⟩ (by rw [size_mk]; omega) v (by rw [toList_mk]; exact h) w).mono ?_
  rintro e w' ⟨rfl, h2⟩
  refine ⟨rfl, ?_⟩
  rcases h2 with rfl | ⟨t, rfl⟩
  · exact Below.refl _ _
  · exact Lib.bytesWorld_below _ _ _
theorem atoi_bad (x : List UInt8) (w : World) (hx : x.length ≤ 281474976710656) (h : ∀ v, Lib.atoiAll x ≠ .ok v) (he : Env w) :
    Calls Tryz.prog 129 #[.string ⟨x.toArray⟩] w fun e w' => ∃ n T a, e = .returned (.tuple #[.int .i64 n, .iface T (.pointer (some a))]) ∧ Below w.heap.size w w' := by
  obtain ⟨ev3, h3, i3⟩ := he.e3
  obtain ⟨ev4, h4, i4⟩ := he.e4
  cases hc : Lib.atoiAll x with
  | ok v => exact absurd hc (h v)
  | range =>
    refine (Tryz.strconv_Atoi_range ⟨x.toArray⟩ (by rw [size_mk]; exact hx) (by rw [toList_mk]; exact hc) ev4 w h4 i4).mono ?_
    rintro e w' ⟨N, rfl, _, _, hb⟩
    exact ⟨_, _, _, rfl, hb⟩
  | _ =>
    refine (Tryz.strconv_Atoi_syntax ⟨x.toArray⟩ (by rw [size_mk]; exact hx) (by rw [toList_mk]; exact hc) ev3 w h3 i3).mono ?_
    rintro e w' ⟨N, rfl, _, _, hb⟩
    exact ⟨_, _, _, rfl, hb⟩


def mayN (n : Int) : Bool := decide (-999999999 ≤ n ∧ n ≤ 999999999)
theorem may_any (n : Int) (w : World) : Calls Tryz.prog 130 #[.int .i64 n] w fun e w' => e = .returned (.bool (mayN n)) ∧ w' = w := by
  by_cases h1 : -999999999 ≤ n
  · have hv : mayN n = decide (n ≤ 999999999) := by simp [mayN, h1]
    rw [hv]
    clear hv
    go_enter Tryz.func130, Tryz.ntmps130
    go_wp2_with fail
    go_ret
    exact ⟨rfl, rfl⟩
  · have hv : mayN n = false := by simp [mayN, h1]
    rw [hv]
    clear hv
    go_enter Tryz.func130, Tryz.ntmps130
    go_wp2_with fail
    go_ret
    exact ⟨rfl, rfl⟩
theorem mayN_iff (n : Int) : mayN n = true ↔ -999999999 ≤ n ∧ n ≤ 999999999 := by simp [mayN]

set_option maxRecDepth 100000 in
set_option maxHeartbeats 1000000 in
theorem digitsNumber_any (x : List UInt8) (w : World) (hx : x.length ≤ 281474976710656) (he : Env w) :
    Calls Tryz.prog 39 #[.string ⟨x.toArray⟩] w fun e w' => Below w.heap.size w w' ∧ (∀ v, pInt x = some v → e = .returned (.tuple #[.int .i64 v, .bool true])) ∧ (pInt x = none → e = .returned (.tuple #[.int .i64 0, .bool false])) := by
  by_cases hok : ∃ v, Lib.atoiAll x = .ok v
  · obtain ⟨v, hv⟩ := hok
    obtain ⟨hv1, hv2⟩ := atoi_bounds hv
    have HV := hide hv
    have HM : Hid (∀ W, Calls Tryz.prog 130 #[.int .i64 v] W fun e w' => e = .returned (.bool (mayN v)) ∧ w' = W) := fun W => may_any v W
    cases hr : mayN v with
    | true =>
      rw [hr] at HM
      by_cases hi : Lib.itoa v = x
      · have HP : Hid (pInt x = some v) := by
          simp only [Hid, pInt, hv]
          rw [if_pos ⟨hi, (mayN_iff v).1 hr⟩]
        clear hv hr
        go_enter Tryz.func39, Tryz.ntmps39
        go_wp2_with fail
        refine (atoi_ok x v w hx HV.out).mono ?_
        rintro e w2 ⟨rfl, hb2⟩
        go_wp2_with fail
        refine (HM.out _).mono ?_
        rintro e w3 ⟨rfl, rfl⟩
        have he3 : Env w3 := he.below hb2
        go_wp2_with fail
        refine (itoa_any v w3 hv1 hv2 he3).mono ?_
        rintro e w4 ⟨rfl, hb4⟩
        rw [hi]
        have hB : Below w.heap.size w w4 := hb2.trans (hb4.mono hb2.size)
        go_wp2_with fail
        go_ret2
        exact ⟨hB, fun v' h => by rw [HP.out] at h; simp at h; subst h; rfl, fun h => by rw [HP.out] at h; simp at h⟩
      · have HP : Hid (pInt x = none) := by
          simp only [Hid, pInt, hv]
          rw [if_neg (fun hh => hi hh.1)]
        have hib : (!Lib.itoa v == x) = true := by simp [hi]
        clear hv hr hi
        go_enter Tryz.func39, Tryz.ntmps39
        go_wp2_with fail
        refine (atoi_ok x v w hx HV.out).mono ?_
        rintro e w2 ⟨rfl, hb2⟩
        go_wp2_with fail
        refine (HM.out _).mono ?_
        rintro e w3 ⟨rfl, rfl⟩
        have he3 : Env w3 := he.below hb2
        go_wp2_with fail
        refine (itoa_any v w3 hv1 hv2 he3).mono ?_
        rintro e w4 ⟨rfl, hb4⟩
        have hB : Below w.heap.size w w4 := hb2.trans (hb4.mono hb2.size)
        go_wp2_with fail
        go_ret2
        exact ⟨hB, fun v' h => by rw [HP.out] at h; simp at h, fun _ => rfl⟩
    | false =>
      rw [hr] at HM
      have HP : Hid (pInt x = none) := by
        simp only [Hid, pInt, hv]
        rw [if_neg (fun hh => by rw [(mayN_iff v).2 hh.2] at hr; cases hr)]
      clear hv hr
      go_enter Tryz.func39, Tryz.ntmps39
      go_wp2_with fail
      refine (atoi_ok x v w hx HV.out).mono ?_
      rintro e w2 ⟨rfl, hb2⟩
      go_wp2_with fail
      refine (HM.out _).mono ?_
      rintro e w3 ⟨rfl, rfl⟩
      go_wp2_with fail
      go_ret2
      exact ⟨hb2, fun v' h => by rw [HP.out] at h; simp at h, fun _ => rfl⟩
  · have HP : Hid (pInt x = none) := by
      simp only [Hid, pInt]
      split
      · rename_i u hu; exact absurd ⟨u, hu⟩ hok
      · rfl
    have HOK : Hid (∀ v, Lib.atoiAll x ≠ .ok v) := fun v hv => hok ⟨v, hv⟩
    clear hok
    go_enter Tryz.func39, Tryz.ntmps39
    go_wp2_with fail
    refine (atoi_bad x w hx HOK.out he).mono ?_
    rintro e w2 ⟨nn, T, ad, rfl, hb2⟩
    go_wp2_with fail
    go_ret2
    exact ⟨hb2, fun v' h => by rw [HP.out] at h; simp at h, fun _ => rfl⟩
theorem pInt_bounds {x : List UInt8} {v : Int} (h : pInt x = some v) : -999999999 ≤ v ∧ v ≤ 999999999 ∧ Lib.itoa v = x := by
  unfold pInt at h
  split at h
  · split at h
    · rename_i hc
      simp at h
      subst h
      exact ⟨hc.2.1, hc.2.2, hc.1⟩
    · simp at h
  · simp at h
end Go.Proofs.YtmaancidkpfopaaGreatDoor

/- WALK: what is wrong with the words behind a command's name. -/
namespace Go.Proofs.YtmaancidkpfopaaGreatDoor
open Go.RowKit

/-- is the word at a place no number, where there should be one? -/
def badN (once again : ByteArray) (l : List ByteArray) (i : Nat) : Bool := decide (pInt (l.getD i ⟨#[]⟩).data.toList = none) && decide (letterP once again i = 110)
def checkP (once again : ByteArray) (l : List ByteArray) : Int := if fitsP once again l.length = false then 1 else if (List.range l.length).any (badN once again l) = true then 3 else 0
theorem fits_again {once again : ByteArray} {n i : Nat} (h : fitsP once again n = true) (hi : i < n) : i < once.size ∨ again.size ≠ 0 := by
  unfold fitsP at h
  split at h
  · rw [decide_eq_true_eq] at h
    omega
  · rename_i h0
    exact .inr h0
theorem any_bad {p : Nat → Bool} {n k : Nat} (hk : k < n) (h : p k = true) : (List.range n).any p = true := List.any_eq_true.2 ⟨k, List.mem_range.2 hk, h⟩
theorem any_good {p : Nat → Bool} {n : Nat} (h : ∀ j, j < n → p j = false) : ¬ (List.range n).any p = true := by
  intro h2
  obtain ⟨j, hj, h3⟩ := List.any_eq_true.1 h2
  rw [h j (List.mem_range.1 hj)] at h3
  cases h3
set_option maxRecDepth 100000 in
set_option maxHeartbeats 4000000 in
theorem checkC_any (nm once again : ByteArray) (fu : Fn) (xs ys : Array Value) (al : Option Addr) (cl : Nat) (l : List ByteArray) (w : World) (he : Env w) (hl : TextsAt w al l) (hlz : ∀ t ∈ l, t.size ≤ 281474976710656) (ho : once.size ≤ 100) (ha : again.size ≤ 100) (hn : l.length ≤ 1000) :
    Calls Tryz.prog 24 #[.agg #[.string nm, .string once, .string again, .func fu xs ys], .slice al l.length cl] w fun e w' => e = .returned (.int .i64 (checkP once again l)) ∧ Below w.heap.size w w' := by
  have HF := hide (fun W => fits_any nm once again (.func fu xs ys) l.length W ho ha hn ⟨_, _, _, rfl⟩)
  obtain ⟨V, hV, AV, BX⟩ : ∃ V, w.alloc (.cells #[.string nm, .string once, .string again, .func fu xs ys] 48) = V ∧ Below w.heap.size w V ∧ V.heap[w.heap.size]? = some (.cells #[.string nm, .string once, .string again, .func fu xs ys] 48) := ⟨_, rfl, (Below.refl _ w).alloc (Nat.le_refl _) _, by show (w.heap.push _)[w.heap.size]? = _; simp⟩
  have c0 : V.cell? ⟨w.heap.size, 0, none⟩ = some (.string nm) := by simp [World.cell?, BX]
  have c1 : V.cell? ⟨w.heap.size, 1, none⟩ = some (.string once) := by simp [World.cell?, BX]
  have c2 : V.cell? ⟨w.heap.size, 2, none⟩ = some (.string again) := by simp [World.cell?, BX]
  have c3 : V.cell? ⟨w.heap.size, 3, none⟩ = some (.func fu xs ys) := by simp [World.cell?, BX]
  have hbl : w.heap.size < V.heap.size := (Array.getElem?_eq_some_iff.1 BX).1
  have HBX := hide BX
  have HL := hide hl
  clear BX hl
  cases hf : fitsP once again l.length with
  | false =>
    have e : checkP once again l = 1 := if_pos hf
    rw [e]
    rw [hf] at HF
    go_enter Tryz.func24, Tryz.ntmps24
    go_wp2_with fail
    refine (HF.out _).mono ?_
    rintro e w1 ⟨rfl, hb1⟩
    clear c0 c1 c2 c3
    go_wp2_with fail
    go_ret
    exact ⟨rfl, AV.trans (hb1.mono AV.size)⟩
  | true =>
    rw [hf] at HF
    have HFA := hide (fun i => fits_again (i := i) hf)
    have HP : Hid (checkP once again l = if (List.range l.length).any (badN once again l) = true then 3 else 0) := if_neg (by rw [hf]; decide)
    go_enter Tryz.func24, Tryz.ntmps24
    go_wp2_with fail
    refine (HF.out _).mono ?_
    rintro e w1 ⟨rfl, hb1⟩
    clear c0 c1 c2 c3
    have B1 : Below w.heap.size w w1 := AV.trans (hb1.mono AV.size)
    have X1 := (hb1.block _ hbl).trans HBX.out
    have HX1 := hide X1
    have HB1 := hide B1
    clear X1 B1 hb1 hbl hV AV HBX
    go_wp2_with fail
    go_loopw [16] (fun iv wr => ∃ k : Nat, k ≤ l.length ∧ iv = .int .i64 k ∧ Hid (Below w1.heap.size w1 wr) ∧ Hid (∀ j, j < k → badN once again l j = false)) (fun iv _ => l.length - (intOf iv).toNat)
    case atStart => exact ⟨0, Nat.zero_le _, rfl, Below.refl _ _, fun j hj => absurd hj (by omega)⟩
    case round =>
      obtain ⟨k, hk, rfl, HR, HJ⟩ := hrel
      obtain ⟨wo, hwo⟩ : ∃ wo, wo = wr := ⟨wr, rfl⟩
      subst hwo
      by_cases hlt : k < l.length
      · have hlt' : ((k : Nat) : Int) < ((l.length : Nat) : Int) := by omega
        obtain ⟨g, o, rfl, hcs⟩ : ∃ g o, al = some ⟨g, o, none⟩ ∧ ∀ i (h : i < l.length), w.cell? ⟨g, o + i, none⟩ = some (.string l[i]) := by
          rcases HL.out with h | h
          · rw [h] at hlt; simp at hlt
          · exact h
        have HBo : Hid (Below w.heap.size w wo) := HB1.out.trans (HR.out.mono HB1.out.size)
        have dk := (HBo.out.cell (World.block_lt_of_cell? _ _ (hcs k hlt))).trans (hcs k hlt)
        have hbad : Hid (badN once again l k = (decide (pInt l[k].data.toList = none) && decide (letterP once again k = 110))) := by
          unfold badN
          rw [show l.getD k ⟨#[]⟩ = l[k] by simp [hlt]]
          rfl
        have hsz : l[k].data.toList.length ≤ 281474976710656 := by
          rw [Array.length_toList]
          exact hlz _ (List.getElem_mem _)
        have HN := hide (fun W => digitsNumber_any l[k].data.toList W hsz)
        have HLT := hide (fun W => letter_any nm once again fu xs ys k W ho ha (by omega) (HFA.out k hlt))
        have hmk : (⟨l[k].data.toList.toArray⟩ : ByteArray) = l[k] := by
          cases l[k]; simp
        rw [hmk] at HN
        have HENV : Hid (Env wo) := he.below HBo.out
        clear hcs hsz hmk
        generalize l[k] = t at *
        go_wp2_with fail
        refine (HN.out _ HENV.out).mono ?_
        rintro e w2 ⟨hb2, hsome, hnone⟩
        have B2 : Hid (Below w1.heap.size w1 w2) := HR.out.trans (hb2.mono HR.out.size)
        have hX := (B2.out.block _ (Array.getElem?_eq_some_iff.1 HX1.out).1).trans HX1.out
        have HX2 := hide hX
        clear hb2 hX dk
        cases hp : pInt t.data.toList with
        | some v =>
          obtain rfl := hsome v hp
          have hgood : Hid (badN once again l k = false) := by rw [Hid, hbad.out, hp]; rfl
          clear hsome hnone hp
          go_wp2_with fail
          go_roundw
          case rel =>
            exact ⟨k + 1, by omega, by go_num, B2, fun j hj => if e : j = k then e ▸ hgood.out else HJ.out j (by omega)⟩
          case measure => simp [intOf]; omega
        | none =>
          obtain rfl := hnone hp
          clear hsome hnone
          have d0 : w2.cell? ⟨w.heap.size, 0, none⟩ = some (.string nm) := by simp [World.cell?, HX2.out]
          have d1 : w2.cell? ⟨w.heap.size, 1, none⟩ = some (.string once) := by simp [World.cell?, HX2.out]
          have d2 : w2.cell? ⟨w.heap.size, 2, none⟩ = some (.string again) := by simp [World.cell?, HX2.out]
          have d3 : w2.cell? ⟨w.heap.size, 3, none⟩ = some (.func fu xs ys) := by simp [World.cell?, HX2.out]
          go_wp2_with fail
          refine (HLT.out _).mono ?_
          rintro e w3 ⟨rfl, hb3⟩
          have B3 : Hid (Below w1.heap.size w1 w3) := B2.out.trans (hb3.mono B2.out.size)
          clear hb3 d0 d1 d2 d3
          by_cases h110 : letterP once again k = 110
          · have h1 : ((letterP once again k).toNat : Int) = 110 := by rw [h110]; rfl
            have hb : Hid (badN once again l k = true) := by rw [Hid, hbad.out, hp, h110]; rfl
            have hR : Hid (checkP once again l = 3) := by rw [Hid, HP.out, if_pos (any_bad hlt hb.out)]
            go_wp2_with fail
            go_ret
            exact ⟨by rw [hR.out]; rfl, HB1.out.trans (B3.out.mono HB1.out.size)⟩
          · have h1 : ¬ ((letterP once again k).toNat : Int) = 110 := fun e => h110 (UInt8.toNat_inj.1 (by simpa using (show (letterP once again k).toNat = 110 by omega)))
            have hgood : Hid (badN once again l k = false) := by rw [Hid, hbad.out, decide_eq_false h110]; simp
            go_wp2_with fail
            go_roundw
            case rel =>
              exact ⟨k + 1, by omega, by go_num, B3, fun j hj => if e : j = k then e ▸ hgood.out else HJ.out j (by omega)⟩
            case measure => simp [intOf]; omega
      · have hge : ¬ ((k : Nat) : Int) < ((l.length : Nat) : Int) := by omega
        have hR : Hid (checkP once again l = 0) := by rw [Hid, HP.out, if_neg (any_good (fun j hj => HJ.out j (by omega)))]
        go_wp2_with fail
        go_ret
        exact ⟨by rw [hR.out]; rfl, HB1.out.trans (HR.out.mono HB1.out.size)⟩
end Go.Proofs.YtmaancidkpfopaaGreatDoor

/- WALK of letters.Small. -/
namespace Go.Proofs.YtmaancidkpfopaaGreatDoor
open Go.RowKit

def smallB (b : UInt8) : UInt8 := if 65 ≤ b.toNat ∧ b.toNat ≤ 90 then UInt8.ofNat (b.toNat + 32) else b
def smallT (s : ByteArray) : ByteArray := ⟨(s.data.toList.map smallB).toArray⟩
/-- bytes in memory, the first of them small -/
structure SmallAt (w : World) (g k : Nat) (l : List UInt8) (wr : World) : Prop where
  be : Below w.heap.size w wr
  lo : w.heap.size ≤ g
  hi : g < wr.heap.size
  c : ∀ j (hj : j < l.length), wr.cell? ⟨g, j, none⟩ = some (.int .u8 ((if j < k then smallB l[j] else l[j]).toNat : Int)) ∧ wr.frozen? ⟨g, j, none⟩ = false
theorem SmallAt.step {w wr : World} {g k : Nat} {l : List UInt8} (h : SmallAt w g k l wr) (hk : k < l.length) : SmallAt w g (k + 1) l (wr.setCell ⟨g, k, none⟩ (.int .u8 ((smallB l[k]).toNat : Int))) := by
  refine ⟨h.be.setCell (p := ⟨g, k, none⟩) h.lo _, h.lo, by simp [World.setCell]; exact h.hi, fun j hj => ?_⟩
  obtain ⟨h1, h2⟩ := h.c j hj
  rw [World.frozen?_setCell]
  refine ⟨?_, h2⟩
  by_cases e : j = k
  · subst e
    rw [World.cell?_setCell_same _ _ _ h1, if_pos (by omega)]
  · rw [World.cell?_setCell_other _ _ _ _ (by intro e2; injection e2 with _ e3; omega), h1]
    by_cases hjk : j < k
    · rw [if_pos hjk, if_pos (by omega)]
    · rw [if_neg hjk, if_neg (by omega)]
theorem SmallAt.skip {w wr : World} {g k : Nat} {l : List UInt8} (h : SmallAt w g k l wr) (hk : k < l.length) (hs : smallB l[k] = l[k]) : SmallAt w g (k + 1) l wr := by
  refine ⟨h.be, h.lo, h.hi, fun j hj => ?_⟩
  obtain ⟨h1, h2⟩ := h.c j hj
  refine ⟨?_, h2⟩
  rw [h1]
  by_cases e : j = k
  · subst e
    rw [if_neg (by omega), if_pos (by omega), hs]
  · by_cases hjk : j < k
    · rw [if_pos hjk, if_pos (by omega)]
    · rw [if_neg hjk, if_neg (by omega)]
theorem small_start (w : World) (e : TypeId) (s : ByteArray) (cp : Nat) : SmallAt w w.heap.size 0 s.data.toList (w.drew.alloc (.cells (bytesRow s cp) e ((bytesRow s cp).size, (bytesRow s cp).size + 1))) := by
  have hb : Below w.heap.size w (w.drew.alloc (.cells (bytesRow s cp) e ((bytesRow s cp).size, (bytesRow s cp).size + 1))) := (Below.refl _ w).drew.alloc (Nat.le_refl _) _
  have hh : (w.drew.alloc (.cells (bytesRow s cp) e ((bytesRow s cp).size, (bytesRow s cp).size + 1))).heap[w.heap.size]? = some (.cells (bytesRow s cp) e ((bytesRow s cp).size, (bytesRow s cp).size + 1)) := by
    show (w.heap.push _)[w.heap.size]? = _
    simp
  generalize w.drew.alloc (.cells (bytesRow s cp) e ((bytesRow s cp).size, (bytesRow s cp).size + 1)) = W at *
  refine ⟨hb, Nat.le_refl _, (Array.getElem?_eq_some_iff.1 hh).1, fun j hj => ?_⟩
  have hj' : j < s.data.size := by rwa [Array.length_toList] at hj
  have hsz : s.data.size ≤ (bytesRow s cp).size := by unfold bytesRow; rw [Array.size_append, Array.size_map]; omega
  have hc := bytesRow_at s cp j hj'
  refine ⟨?_, ?_⟩
  · unfold World.cell?
    simp only [hh, Option.isSome_none, Bool.false_eq_true, if_false, hc, Nat.not_lt_zero, Array.getElem_toList]
  · unfold World.frozen?
    simp only [hh, decide_eq_false (show ¬ (bytesRow s cp).size ≤ j by omega), Bool.false_and]
set_option maxRecDepth 100000 in
set_option maxHeartbeats 4000000 in
theorem small_any (s : ByteArray) (w : World) (hs : s.size ≤ 9223372036854775807) :
    Calls Tryz.prog 20 #[.string s] w fun e w' => e = .returned (.string (smallT s)) ∧ Below w.heap.size w w' := by
  have hconv := run_bytes_of_string (P := Tryz.prog) w 9 76 5 s Tryz.underlying9 Tryz.underlying76 Tryz.underlying5
  have HS := hide (small_start w 5 s (grownCap w s.size 0 5))
  generalize (w.drew.alloc (.cells (bytesRow s (grownCap w s.size 0 5)) 5 ((bytesRow s (grownCap w s.size 0 5)).size, (bytesRow s (grownCap w s.size 0 5)).size + 1))) = W1 at *
  generalize grownCap w s.size 0 5 = cp at *
  have hsz : s.data.toList.length = s.size := Array.length_toList
  obtain ⟨l, hl⟩ : ∃ l, l = s.data.toList := ⟨_, rfl⟩
  have HT : Hid (smallT s = ⟨(l.map smallB).toArray⟩) := by rw [Hid, hl]; rfl
  rw [← hl] at HS hsz
  rw [← hsz] at hconv hs
  have HL := hide hl
  clear hl hsz
  generalize smallT s = TS at *
  obtain ⟨g0, hg0⟩ : ∃ g0, w.heap.size = g0 := ⟨_, rfl⟩
  rw [hg0] at HS hconv ⊢
  have HB0 := hide hg0
  clear hg0
  go_enter Tryz.func20, Tryz.ntmps20
  go_wp2_with fail
  go_loopw [10] (fun iv wr => ∃ k : Nat, k ≤ l.length ∧ iv = .int .i64 k ∧ Hid (SmallAt w g0 k l wr)) (fun iv _ => l.length - (intOf iv).toNat)
  case atStart => exact ⟨0, Nat.zero_le _, rfl, HS⟩
  case round =>
    obtain ⟨k, hk, rfl, HR⟩ := hrel
    by_cases hlt : k < l.length
    · have hlt' : ((k : Nat) : Int) < ((l.length : Nat) : Int) := by omega
      obtain ⟨c0, f0⟩ := HR.out.c k hlt
      rw [if_neg (Nat.lt_irrefl k)] at c0
      have HE := hide (HR.out.step hlt)
      have HN := hide (fun e => HR.out.skip hlt e)
      generalize l[k] = b at *
      by_cases hb : 65 ≤ b.toNat ∧ b.toNat ≤ 90
      · have h1 : (65 : Int) ≤ ((b.toNat : Nat) : Int) := by omega
        have h2 : ((b.toNat : Nat) : Int) ≤ 90 := by omega
        go_wp2_with fail
        refine ⟨⟨k + 1, by omega, by go_num, ?_⟩, by simp [intOf]; omega⟩
        have e : ((b.toNat : Nat) : Int) - 65 + 97 = ((smallB b).toNat : Int) := by
          rw [smallB, if_pos hb, UInt8.toNat_ofNat']
          omega
        rw [e]
        exact HE
      · have HS2 : Hid (SmallAt w g0 (k + 1) l wr) := HN.out (by rw [smallB, if_neg hb])
        by_cases h65 : 65 ≤ b.toNat
        · have h1 : (65 : Int) ≤ ((b.toNat : Nat) : Int) := by omega
          have h2 : ¬ ((b.toNat : Nat) : Int) ≤ 90 := by omega
          go_wp2_with fail
          exact ⟨⟨k + 1, by omega, by go_num, HS2⟩, by simp [intOf]; omega⟩
        · have h1 : ¬ (65 : Int) ≤ ((b.toNat : Nat) : Int) := by omega
          go_wp2_with fail
          exact ⟨⟨k + 1, by omega, by go_num, HS2⟩, by simp [intOf]; omega⟩
    · have hge : ¬ ((k : Nat) : Int) < ((l.length : Nat) : Int) := by omega
      obtain rfl : k = l.length := by omega
      have hback := run_convert_bytes_back (P := Tryz.prog) wr 76 9 5 ⟨g0, 0, none⟩ cp (l.map smallB) Tryz.underlying76 Tryz.underlying5 Tryz.underlying9 (fun j hj => by
        have hj' : j < l.length := by simpa using hj
        have e : (⟨g0, 0, none⟩ : Addr).add j = ⟨g0, j, none⟩ := by
          unfold Addr.add
          split
          · rename_i h; subst h; rfl
          · simp
        rw [e, (HR.out.c j hj').1, if_pos hj', List.getElem_map])
      rw [List.length_map, ← HT.out] at hback
      go_wp2_with fail
      go_ret
      exact ⟨rfl, HB0.out ▸ HR.out.be⟩
end Go.Proofs.YtmaancidkpfopaaGreatDoor

/- WALKS of the checks of single replies. -/
namespace Go.Proofs.YtmaancidkpfopaaGreatDoor
open Go.RowKit

/-- has it something that its kind does not name? -/
def pOther (k : Int) (t : ByteArray) (n : Int) (len : Nat) : Bool :=
  decide ((¬ (k = 1 ∨ k = 4) ∧ ¬ t.toList = []) ∨ (¬ (k = 2 ∨ k = 3) ∧ ¬ n = 0) ∨ 0 < len)

set_option maxHeartbeats 1000000 in
theorem replyOther_any (k : Int) (t : ByteArray) (n : Int) (a : Option Addr) (len cap : Nat) (w : World) :
    Calls Tryz.prog 212 #[.agg #[.int .i64 k, .string t, .int .i64 n, .slice a len cap]] w fun e w' => e = .returned (.bool (pOther k t n len)) ∧ Below w.heap.size w w' := by
  go_enter Tryz.func212, Tryz.ntmps212
  go_wp2
  all_goals go_ret
  all_goals refine ⟨?_, (Below.refl _ _).alloc (Nat.le_refl _) _⟩
  all_goals simp [pOther, *]

/-- a letter, a digit or a blank -/
def isWordC (c : UInt8) : Bool := decide ((97 ≤ c.toNat ∧ c.toNat ≤ 122) ∨ (65 ≤ c.toNat ∧ c.toNat ≤ 90) ∨ (48 ≤ c.toNat ∧ c.toNat ≤ 57) ∨ c.toNat = 32)

set_option maxHeartbeats 1000000 in
theorem ofWord_any (c : UInt8) (w : World) :
    Calls Tryz.prog 248 #[.int .u8 c.toNat] w fun e w' => e = .returned (.bool (isWordC c)) ∧ w' = w := by
  go_enter Tryz.func248, Tryz.ntmps248
  go_wp2
  all_goals go_ret
  all_goals refine ⟨congrArg (fun b : Bool => Ending.returned (.bool b)) ?_, rfl⟩
  all_goals rw [Bool.eq_iff_iff]
  all_goals simp [isWordC]
  all_goals omega

set_option maxHeartbeats 1000000 in
theorem checkRange_any (n lo hi : Int) (w : World) :
    Calls Tryz.prog 214 #[.int .i64 n, .int .i64 lo, .int .i64 hi] w fun e w' => e = .returned (.int .i64 (if n < lo ∨ hi < n then 3 else 0)) ∧ w' = w := by
  by_cases h1 : n < lo
  · rw [if_pos (by omega)]
    go_enter Tryz.func214, Tryz.ntmps214
    go_wp2
    go_ret
    exact ⟨rfl, rfl⟩
  · by_cases h2 : hi < n
    · rw [if_pos (by omega)]
      go_enter Tryz.func214, Tryz.ntmps214
      go_wp2
      go_ret
      exact ⟨rfl, rfl⟩
    · rw [if_neg (by omega)]
      go_enter Tryz.func214, Tryz.ntmps214
      go_wp2
      go_ret
      exact ⟨rfl, rfl⟩

/-- the check of a word, as a plain function -/
def pWordOk (t : ByteArray) : Int := if 20 < t.size then 2 else if t.toList = [] then 1 else if t.data.toList.all isWordC then 0 else 1

theorem all_take_succ (p : UInt8 → Bool) (s : ByteArray) (k : Nat) (h : k < s.size) : (s.data.toList.take (k + 1)).all p = ((s.data.toList.take k).all p && p s[k]) := by
  rw [List.take_succ_eq_append_getElem (by rw [size_list]; exact h)]
  simp
  rfl

set_option maxHeartbeats 1000000 in
theorem checkWord_any (t : ByteArray) (w : World) (ht : t.size ≤ maxLen) :
    Calls Tryz.prog 213 #[.string t] w fun e w' => e = .returned (.int .i64 (pWordOk t)) ∧ w' = w := by
  unfold maxLen at ht
  by_cases h1 : 20 < t.size
  · have hp : pWordOk t = 2 := by rw [pWordOk, if_pos h1]
    rw [hp]
    clear hp
    go_enter Tryz.func213, Tryz.ntmps213
    go_wp2
    go_ret
    exact ⟨rfl, rfl⟩
  · by_cases h2 : t.toList = []
    · have hp : pWordOk t = 1 := by rw [pWordOk, if_neg h1, if_pos h2]
      rw [hp]
      clear hp
      go_enter Tryz.func213, Tryz.ntmps213
      go_wp2
      go_ret
      exact ⟨rfl, rfl⟩
    · have hp : pWordOk t = if t.data.toList.all isWordC then 0 else 1 := by rw [pWordOk, if_neg h1, if_neg h2]
      have HP := hide hp
      have h2b : t.toList.isEmpty = false := by simpa using h2
      clear hp h2
      go_enter Tryz.func213, Tryz.ntmps213
      go_wp2
      go_loop [11] (fun i => ∃ k : Nat, k ≤ t.size ∧ i = .int .i64 k ∧ Hid ((t.data.toList.take k).all isWordC = true)) (fun i => t.size - (intOf i).toNat)
      case atStart => exact ⟨0, Nat.zero_le _, rfl, by simp [Hid]⟩
      case round =>
        obtain ⟨k, hk, rfl, HA⟩ := hrel
        by_cases hlt : k < t.size
        · have hstep := all_take_succ isWordC t k hlt
          rw [HA.out, Bool.true_and] at hstep
          cases hc : isWordC t[k] with
          | true =>
            have HS : Hid ((t.data.toList.take (k + 1)).all isWordC = true) := hstep.trans hc
            clear hstep
            go_wp2_with (go_at_call 248; refine (ofWord_any _ _).mono ?_; rintro e w' ⟨rfl, rfl⟩)
            go_round
            case rel => exact ⟨k + 1, by omega, by go_num, HS⟩
            case measure => simp [intOf]; omega
          | false =>
            have HS : Hid (pWordOk t = 1) := by
              rw [HP.out]
              have hf : t.data.toList.all isWordC = false := by
                rw [← List.take_append_drop (k + 1) t.data.toList, List.all_append, hstep, hc, Bool.false_and]
              simp [Hid, hf]
            clear hstep
            go_wp2_with (go_at_call 248; refine (ofWord_any _ _).mono ?_; rintro e w' ⟨rfl, rfl⟩)
            go_ret
            rw [HS.out]
            exact ⟨rfl, rfl⟩
        · have HS : Hid (pWordOk t = 0) := by
            have h3 := HA.out
            rw [List.take_of_length_le (by rw [size_list]; omega)] at h3
            rw [HP.out]
            simp [Hid, h3]
          go_wp2
          go_ret
          rw [HS.out]
          exact ⟨rfl, rfl⟩

/-- the check of a single reply, as a plain function -/
def pCheck1 (k : Int) (t : ByteArray) (n : Int) (len : Nat) : Int :=
  if k < 1 ∨ 5 < k then 7 else if pOther k t n len then 1 else
    if k = 1 then pWordOk t else if k = 2 then (if n < 1 ∨ 8 < n then 3 else 0) else if k = 3 then (if n < -999999999 ∨ 999999999 < n then 3 else 0) else
    if k = 4 ∧ 60 < t.size then 2 else 0

set_option maxRecDepth 100000 in
set_option maxHeartbeats 1000000 in
theorem checkSingle_any (k : Int) (t : ByteArray) (n : Int) (a : Option Addr) (len cap : Nat) (w : World) (ht : t.size ≤ maxLen) :
    Calls Tryz.prog 145 #[.agg #[.int .i64 k, .string t, .int .i64 n, .slice a len cap]] w fun e w' => e = .returned (.int .i64 (pCheck1 k t n len)) ∧ Below w.heap.size w w' := by
  by_cases h0 : k < 1 ∨ 5 < k
  · have hp : pCheck1 k t n len = 7 := by rw [pCheck1, if_pos h0]
    rw [hp]
    clear hp
    rcases h0 with h0 | h0
    · go_enter Tryz.func145, Tryz.ntmps145
      go_wp2
      go_ret
      exact ⟨rfl, (Below.refl _ _).alloc (Nat.le_refl _) _⟩
    · have h0' : 1 ≤ k := by omega
      go_enter Tryz.func145, Tryz.ntmps145
      go_wp2
      go_ret
      exact ⟨rfl, (Below.refl _ _).alloc (Nat.le_refl _) _⟩
  · have h1 : 1 ≤ k := by omega
    have h2 : k ≤ 5 := by omega
    cases ho : pOther k t n len with
    | true =>
      have hp : pCheck1 k t n len = 1 := by rw [pCheck1, if_neg h0, ho]; rfl
      rw [hp]
      clear hp h0
      go_enter Tryz.func145, Tryz.ntmps145
      go_wp2_with (go_at_call 212; refine (replyOther_any _ _ _ _ _ _ _).mono ?_; rintro e w1 ⟨rfl, hb1⟩)
      go_ret
      exact ⟨rfl, ((Below.refl _ w).alloc (Nat.le_refl _) _).trans (hb1.mono (by simp))⟩
    | false =>
      have hp : pCheck1 k t n len = if k = 1 then pWordOk t else if k = 2 then (if n < 1 ∨ 8 < n then 3 else 0) else if k = 3 then (if n < -999999999 ∨ 999999999 < n then 3 else 0) else if k = 4 ∧ 60 < t.size then 2 else 0 := by
        rw [pCheck1, if_neg h0, ho]; rfl
      rw [hp]
      clear hp h0
      have hk5 : k = 1 ∨ k = 2 ∨ k = 3 ∨ k = 4 ∨ k = 5 := by omega
      unfold maxLen at ht
      rcases hk5 with rfl | rfl | rfl | rfl | rfl
      · rw [if_pos rfl]
        go_enter Tryz.func145, Tryz.ntmps145
        go_wp2_with (first | (go_at_call 212; refine (replyOther_any _ _ _ _ _ _ _).mono ?_; rintro e w1 ⟨rfl, hb1⟩; obtain ⟨hc, hf⟩ := bcell hb1; have hz : w.heap.size < w1.heap.size := by have := hb1.size; simp at this; omega) | (go_at_call 213; refine (checkWord_any _ _ (by unfold maxLen; exact ht)).mono ?_; rintro e w2 ⟨rfl, rfl⟩))
        all_goals go_ret
        all_goals exact ⟨rfl, ((Below.refl _ w).alloc (Nat.le_refl _) _).trans (hb1.mono (by simp))⟩
      · rw [if_neg (by decide), if_pos rfl]
        go_enter Tryz.func145, Tryz.ntmps145
        go_wp2_with (first | (go_at_call 212; refine (replyOther_any _ _ _ _ _ _ _).mono ?_; rintro e w1 ⟨rfl, hb1⟩; obtain ⟨hc, hf⟩ := bcell hb1; have hz : w.heap.size < w1.heap.size := by have := hb1.size; simp at this; omega) | (go_at_call 214; refine (checkRange_any _ _ _ _).mono ?_; rintro e w2 ⟨rfl, rfl⟩))
        all_goals go_ret
        all_goals exact ⟨rfl, ((Below.refl _ w).alloc (Nat.le_refl _) _).trans (hb1.mono (by simp))⟩
      · rw [if_neg (by decide), if_neg (by decide), if_pos rfl]
        go_enter Tryz.func145, Tryz.ntmps145
        go_wp2_with (first | (go_at_call 212; refine (replyOther_any _ _ _ _ _ _ _).mono ?_; rintro e w1 ⟨rfl, hb1⟩; obtain ⟨hc, hf⟩ := bcell hb1; have hz : w.heap.size < w1.heap.size := by have := hb1.size; simp at this; omega) | (go_at_call 214; refine (checkRange_any _ _ _ _).mono ?_; rintro e w2 ⟨rfl, rfl⟩))
        all_goals go_ret
        all_goals exact ⟨rfl, ((Below.refl _ w).alloc (Nat.le_refl _) _).trans (hb1.mono (by simp))⟩
      · by_cases h60 : 60 < t.size
        · rw [if_neg (by decide), if_neg (by decide), if_neg (by decide), if_pos ⟨rfl, h60⟩]
          go_enter Tryz.func145, Tryz.ntmps145
          go_wp2_with (first | (go_at_call 212; refine (replyOther_any _ _ _ _ _ _ _).mono ?_; rintro e w1 ⟨rfl, hb1⟩; obtain ⟨hc, hf⟩ := bcell hb1; have hz : w.heap.size < w1.heap.size := by have := hb1.size; simp at this; omega))
          go_ret
          exact ⟨rfl, ((Below.refl _ w).alloc (Nat.le_refl _) _).trans (hb1.mono (by simp))⟩
        · rw [if_neg (by decide), if_neg (by decide), if_neg (by decide), if_neg (fun h => h60 h.2)]
          go_enter Tryz.func145, Tryz.ntmps145
          go_wp2_with (first | (go_at_call 212; refine (replyOther_any _ _ _ _ _ _ _).mono ?_; rintro e w1 ⟨rfl, hb1⟩; obtain ⟨hc, hf⟩ := bcell hb1; have hz : w.heap.size < w1.heap.size := by have := hb1.size; simp at this; omega))
          go_ret
          exact ⟨rfl, ((Below.refl _ w).alloc (Nat.le_refl _) _).trans (hb1.mono (by simp))⟩
      · rw [if_neg (by decide), if_neg (by decide), if_neg (by decide), if_neg (fun h => absurd h.1 (by decide))]
        go_enter Tryz.func145, Tryz.ntmps145
        go_wp2_with (first | (go_at_call 212; refine (replyOther_any _ _ _ _ _ _ _).mono ?_; rintro e w1 ⟨rfl, hb1⟩; obtain ⟨hc, hf⟩ := bcell hb1; have hz : w.heap.size < w1.heap.size := by have := hb1.size; simp at this; omega))
        all_goals go_ret
        all_goals exact ⟨rfl, ((Below.refl _ w).alloc (Nat.le_refl _) _).trans (hb1.mono (by simp))⟩
end Go.Proofs.YtmaancidkpfopaaGreatDoor

/- WALKS of the check of replies. -/
namespace Go.Proofs.YtmaancidkpfopaaGreatDoor
open Go.RowKit

/-- a reply, flat: what its list is, is an address -/
structure Rep where
  k : Int
  t : ByteArray
  n : Int
  a : Option Addr
  len : Nat
  cap : Nat

def Rep.val (r : Rep) : Value := .agg #[.int .i64 r.k, .string r.t, .int .i64 r.n, .slice r.a r.len r.cap]

/-- the replies rs lie from offset off of block b on -/
structure Reps (w : World) (b off : Nat) (rs : List Rep) : Prop where
  c0 : ∀ i (h : i < rs.length), w.cell? ⟨b, off + i * 4, none⟩ = some (.int .i64 rs[i].k)
  c1 : ∀ i (h : i < rs.length), w.cell? ⟨b, off + i * 4 + 1, none⟩ = some (.string rs[i].t)
  c2 : ∀ i (h : i < rs.length), w.cell? ⟨b, off + i * 4 + 2, none⟩ = some (.int .i64 rs[i].n)
  c3 : ∀ i (h : i < rs.length), w.cell? ⟨b, off + i * 4 + 3, none⟩ = some (.slice rs[i].a rs[i].len rs[i].cap)
  small : ∀ r ∈ rs, r.t.size ≤ maxLen

def pCheck1R (r : Rep) : Int := pCheck1 r.k r.t r.n r.len
/-- the first one that is wrong -/
def pFirst : List Rep → Int
  | [] => 0
  | r :: rs => if pCheck1R r = 0 then pFirst rs else pCheck1R r
theorem pFirst_ok {r : Rep} {rs : List Rep} (h : pCheck1 r.k r.t r.n r.len = 0) : pFirst (r :: rs) = pFirst rs := if_pos h
theorem pFirst_bad {r : Rep} {rs : List Rep} (h : ¬ pCheck1 r.k r.t r.n r.len = 0) : pFirst (r :: rs) = pCheck1 r.k r.t r.n r.len := if_neg h
def pCheck (k : Int) (t : ByteArray) (n : Int) (rs : List Rep) : Int :=
  if k = 6 then (if ¬ t.toList = [] ∨ ¬ n = 0 then 1 else if 300 < rs.length then 2 else pFirst rs) else pCheck1 k t n rs.length

theorem Reps.kept {w w' : World} {b off : Nat} {rs : List Rep} (h : Reps w b off rs) {S : Nat → Prop} (hk : Kept S w w') (hs : ¬ S b) : Reps w' b off rs :=
  ⟨fun i hi => hk.cell' (h.c0 i hi) hs, fun i hi => hk.cell' (h.c1 i hi) hs, fun i hi => hk.cell' (h.c2 i hi) hs, fun i hi => hk.cell' (h.c3 i hi) hs, h.small⟩

set_option maxRecDepth 100000 in
set_option maxHeartbeats 1000000 in
theorem checkList_any (b off cap : Nat) (rs : List Rep) (w : World) (h : Reps w b off rs) (hn : rs.length ≤ 300) (t : ByteArray) (ht : t.toList = []) :
    Calls Tryz.prog 50 #[.agg #[.int .i64 6, .string t, .int .i64 0, .slice (some ⟨b, off, none⟩) rs.length cap]] w fun e w' => e = .returned (.int .i64 (pFirst rs)) ∧ Below w.heap.size w w' := by
  go_enter Tryz.func50, Tryz.ntmps50
  go_wp2
  go_loopw [26] (fun i wr => ∃ k : Nat, k ≤ rs.length ∧ i = .int .i64 k ∧ Below w.heap.size w wr ∧ Hid (pFirst rs = pFirst (rs.drop k))) (fun i _ => rs.length - (intOf i).toNat)
  case atStart => exact ⟨0, Nat.zero_le _, rfl, (Below.refl _ _).alloc (Nat.le_refl _) _, rfl⟩
  case round =>
    obtain ⟨k, hk, rfl, hb, HP⟩ := hrel
    by_cases hlt : k < rs.length
    · have hkb : b < w.heap.size := World.block_lt_of_cell? w _ (h.c0 k hlt)
      have e0 : wr.cell? ⟨b, off + k * 4, none⟩ = some (.int .i64 rs[k].k) := (hb.cell (p := ⟨b, off + k * 4, none⟩) hkb).trans (h.c0 k hlt)
      have e1 : wr.cell? ⟨b, off + k * 4 + 1, none⟩ = some (.string rs[k].t) := (hb.cell (p := ⟨b, off + k * 4 + 1, none⟩) hkb).trans (h.c1 k hlt)
      have e2 : wr.cell? ⟨b, off + k * 4 + 2, none⟩ = some (.int .i64 rs[k].n) := (hb.cell (p := ⟨b, off + k * 4 + 2, none⟩) hkb).trans (h.c2 k hlt)
      have e3 : wr.cell? ⟨b, off + k * 4 + 3, none⟩ = some (.slice rs[k].a rs[k].len rs[k].cap) := (hb.cell (p := ⟨b, off + k * 4 + 3, none⟩) hkb).trans (h.c3 k hlt)
      have hd : rs.drop k = rs[k] :: rs.drop (k + 1) := List.drop_eq_getElem_cons hlt
      have HD := hide hd
      have hsm : rs[k].t.size ≤ maxLen := h.small _ (List.getElem_mem hlt)
      have HSM := hide hsm
      clear hd hsm
      by_cases hz : pCheck1 rs[k].k rs[k].t rs[k].n rs[k].len = 0
      · have HS : Hid (pFirst rs = pFirst (rs.drop (k + 1))) := by
          rw [HP.out, HD.out]
          exact pFirst_ok hz
        have hzb : (pCheck1 rs[k].k rs[k].t rs[k].n rs[k].len != 0) = false := by rw [hz]; rfl
        clear hz
        go_wp2_with (go_at_call 145; refine (checkSingle_any _ _ _ _ _ _ _ (unhide HSM)).mono ?_; rintro e w1 ⟨rfl, hb1⟩)
        go_roundw
        case rel => exact ⟨k + 1, by omega, by go_num, (hb.alloc hb.size _).trans (hb1.mono (by have := hb.size; simp; omega)), HS⟩
        case measure => simp [intOf]; omega
      · have HS : Hid (pFirst rs = pCheck1 rs[k].k rs[k].t rs[k].n rs[k].len) := by
          rw [HP.out, HD.out]
          exact pFirst_bad hz
        have hzb : (pCheck1 rs[k].k rs[k].t rs[k].n rs[k].len != 0) = true := by rw [bne_iff_ne]; exact hz
        clear hz
        go_wp2_with (go_at_call 145; refine (checkSingle_any _ _ _ _ _ _ _ (unhide HSM)).mono ?_; rintro e w1 ⟨rfl, hb1⟩)
        go_ret
        rw [HS.out]
        exact ⟨rfl, (hb.alloc hb.size _).trans (hb1.mono (by have := hb.size; simp; omega))⟩
    · have HS : Hid (pFirst rs = 0) := by
        rw [HP.out, List.drop_of_length_le (by omega)]
        rfl
      go_wp2
      go_ret
      rw [HS.out]
      exact ⟨rfl, hb⟩

set_option maxRecDepth 100000 in
set_option maxHeartbeats 1000000 in
theorem checkNil_any (a : Option Addr) (cap : Nat) (w : World) (t : ByteArray) (ht : t.toList = []) :
    Calls Tryz.prog 50 #[.agg #[.int .i64 6, .string t, .int .i64 0, .slice a 0 cap]] w fun e w' => e = .returned (.int .i64 0) ∧ Below w.heap.size w w' := by
  go_enter Tryz.func50, Tryz.ntmps50
  go_wp2
  go_loopw [26] (fun i wr => i = .int .i64 0 ∧ Below w.heap.size w wr) (fun _ _ => 0)
  case atStart => exact ⟨rfl, (Below.refl _ _).alloc (Nat.le_refl _) _⟩
  case round =>
    obtain ⟨rfl, hb⟩ := hrel
    go_wp2
    go_ret
    exact ⟨rfl, hb⟩

set_option maxRecDepth 100000 in
set_option maxHeartbeats 1000000 in
theorem checkForm_any (t : ByteArray) (n : Int) (a : Option Addr) (len cap : Nat) (w : World) (h : ¬ t.toList = [] ∨ ¬ n = 0) :
    Calls Tryz.prog 50 #[.agg #[.int .i64 6, .string t, .int .i64 n, .slice a len cap]] w fun e w' => e = .returned (.int .i64 1) ∧ Below w.heap.size w w' := by
  by_cases h1 : t.toList = []
  · have h2 : ¬ n = 0 := by rcases h with h | h; exact absurd h1 h; exact h
    clear h
    go_enter Tryz.func50, Tryz.ntmps50
    go_wp2
    go_ret
    exact ⟨rfl, (Below.refl _ _).alloc (Nat.le_refl _) _⟩
  · clear h
    go_enter Tryz.func50, Tryz.ntmps50
    go_wp2
    go_ret
    exact ⟨rfl, (Below.refl _ _).alloc (Nat.le_refl _) _⟩

set_option maxRecDepth 100000 in
set_option maxHeartbeats 1000000 in
theorem checkMany_any (t : ByteArray) (a : Option Addr) (len cap : Nat) (w : World) (ht : t.toList = []) (hl : (300 : Int) < len) :
    Calls Tryz.prog 50 #[.agg #[.int .i64 6, .string t, .int .i64 0, .slice a len cap]] w fun e w' => e = .returned (.int .i64 2) ∧ Below w.heap.size w w' := by
  go_enter Tryz.func50, Tryz.ntmps50
  go_wp2
  go_ret
  exact ⟨rfl, (Below.refl _ _).alloc (Nat.le_refl _) _⟩

set_option maxRecDepth 100000 in
set_option maxHeartbeats 1000000 in
theorem checkOther_any (k : Int) (t : ByteArray) (n : Int) (a : Option Addr) (len cap : Nat) (w : World) (hk : ¬ k = 6) (ht : t.size ≤ maxLen) :
    Calls Tryz.prog 50 #[.agg #[.int .i64 k, .string t, .int .i64 n, .slice a len cap]] w fun e w' => e = .returned (.int .i64 (pCheck1 k t n len)) ∧ Below w.heap.size w w' := by
  have HT := hide ht
  clear ht
  go_enter Tryz.func50, Tryz.ntmps50
  go_wp2_with (go_at_call 145; refine (checkSingle_any _ _ _ _ _ _ _ (unhide HT)).mono ?_; rintro e w1 ⟨rfl, hb1⟩)
  go_ret
  exact ⟨rfl, ((Below.refl _ w).alloc (Nat.le_refl _) _).trans (hb1.mono (by simp))⟩

/-- where the list of a reply lies: nowhere, if it has none, or from an offset of a block on -/
def ListAt (w : World) (a : Option Addr) (rs : List Rep) : Prop := rs = [] ∨ ∃ b off, a = some ⟨b, off, none⟩ ∧ Reps w b off rs

/-- Check, whatever it is handed. -/
theorem replyCheck_any (k : Int) (t : ByteArray) (n : Int) (a : Option Addr) (cap : Nat) (rs : List Rep) (w : World) (ht : t.size ≤ maxLen) (hl : ListAt w a rs) :
    Calls Tryz.prog 50 #[.agg #[.int .i64 k, .string t, .int .i64 n, .slice a rs.length cap]] w fun e w' => e = .returned (.int .i64 (pCheck k t n rs)) ∧ Below w.heap.size w w' := by
  by_cases hk : k = 6
  · subst hk
    by_cases hf : ¬ t.toList = [] ∨ ¬ n = 0
    · have hp : pCheck 6 t n rs = 1 := by rw [pCheck, if_pos rfl, if_pos hf]
      rw [hp]
      exact checkForm_any t n a _ cap w hf
    · have h1 : t.toList = [] := Decidable.byContradiction fun h => hf (.inl h)
      have h2 : n = 0 := Decidable.byContradiction fun h => hf (.inr h)
      subst h2
      by_cases hm : 300 < rs.length
      · have hp : pCheck 6 t 0 rs = 2 := by rw [pCheck, if_pos rfl, if_neg hf, if_pos hm]
        rw [hp]
        exact checkMany_any t a _ cap w h1 (by omega)
      · have hp : pCheck 6 t 0 rs = pFirst rs := by rw [pCheck, if_pos rfl, if_neg hf, if_neg hm]
        rw [hp]
        rcases hl with rfl | ⟨b, off, rfl, hr⟩
        · exact checkNil_any a cap w t h1
        · exact checkList_any b off cap rs w hr (by omega) t h1
  · have hp : pCheck k t n rs = pCheck1 k t n rs.length := by rw [pCheck, if_neg hk]
    rw [hp]
    exact checkOther_any k t n a _ cap w hk ht
end Go.Proofs.YtmaancidkpfopaaGreatDoor

/- Library contracts, laid at this program. -/
namespace Go.Proofs
open Go.Shelf
def Tryz.lays169_ren : Go.Shelf.Ren := ⟨fun | 169 => 54 | n => n, fun | 70 => 90 | 9 => 9 | 0 => 0 | 72 => 92 | 37 => 76 | 127 => 155 | 3 => 3 | 5 => 5 | n => n, fun | n => n⟩
theorem Tryz.lays169 : Go.Proofs.Lays.n169 Tryz.prog Tryz.lays169_ren := {
  mixed := by kernel_rfl
  f169 := Tryz.func54.trans (congrArg some (by kernel_rfl))
  t0 := Tryz.underlying0
  a0 := Tryz.isAgg0
  z0 := Tryz.sizeOf0
  v0 := Tryz.zeroValue0
  t3 := Tryz.underlying3
  a3 := Tryz.isAgg3
  z3 := Tryz.sizeOf3
  v3 := Tryz.zeroValue3
  t9 := Tryz.underlying9
  a9 := Tryz.isAgg9
  z9 := Tryz.sizeOf9
  v9 := Tryz.zeroValue9
  t37 := Tryz.underlying76
  a37 := Tryz.isAgg76
  z37 := Tryz.sizeOf76
  v37 := Tryz.zeroValue76
  t70 := Tryz.underlying90
  a70 := Tryz.isAgg90
  z70 := Tryz.sizeOf90
  v70 := Tryz.zeroValue90
  t72 := Tryz.underlying92
  a72 := Tryz.isAgg92
  z72 := Tryz.sizeOf92
  v72 := Tryz.zeroValue92
  t127 := Tryz.underlying155
  a127 := Tryz.isAgg155
  z127 := Tryz.sizeOf155
  v127 := Tryz.zeroValue155 }
theorem Tryz.Builder_Extra_169 : Builder.Extra Tryz.prog Tryz.lays169_ren := {
  sizeBuilder := by kernel_rfl
  liesBuilder := by kernel_rfl
  t5 := Tryz.underlying5
  a5 := Tryz.isAgg5
  z5 := Tryz.sizeOf5
  v5 := Tryz.zeroValue5
  infoByte := by kernel_rfl
  cellsByte := by kernel_rfl
  sizeByte := by kernel_rfl
  neB5 := by decide }
open Go.RowKit in
theorem Tryz.Builder_String_any (B b : Nat) (l : List UInt8) (w : World) (h : Lib.IsBuilder 92 5 B b (Lib.byteCells l) w) (hBw : B ≤ w.heap.size) :
    Calls Tryz.prog 54 #[.pointer (some ⟨b, 0, none⟩)] w fun e w' => e = .returned (.string ⟨l.toArray⟩) ∧ Below B w w' := Any.Builder_String_any Tryz.lays169 Tryz.Builder_Extra_169 B b l w h hBw
def Tryz.lays171_ren : Go.Shelf.Ren := ⟨fun | 171 => 53 | 243 => 147 | 246 => 216 | 283 => 249 | 284 => 250 | 285 => 251 | 286 => 252 | 129 => 276 | 317 => 288 | 318 => 289 | 319 => 290 | 320 => 291 | 337 => 315 | 338 => 316 | n => n, fun | 3 => 3 | 9 => 9 | 2 => 2 | 4 => 4 | 171 => 248 | 0 => 0 | 53 => 249 | 37 => 76 | 5 => 5 | 173 => 252 | 212 => 293 | 51 => 277 | 20 => 20 | 213 => 294 | 46 => 224 | 232 => 339 | 233 => 340 | n => n, fun | 17 => 3 | 18 => 4 | 19 => 5 | n => n⟩
theorem Tryz.lays171 : Go.Proofs.Lays.n171 Tryz.prog Tryz.lays171_ren := {
  mixed := by kernel_rfl
  f129 := Tryz.func276.trans (congrArg some (by kernel_rfl))
  f171 := Tryz.func53.trans (congrArg some (by kernel_rfl))
  f243 := Tryz.func147.trans (congrArg some (by kernel_rfl))
  f246 := Tryz.func216.trans (congrArg some (by kernel_rfl))
  f283 := Tryz.func249.trans (congrArg some (by kernel_rfl))
  f284 := Tryz.func250.trans (congrArg some (by kernel_rfl))
  f285 := Tryz.func251.trans (congrArg some (by kernel_rfl))
  f286 := Tryz.func252.trans (congrArg some (by kernel_rfl))
  f317 := Tryz.func288.trans (congrArg some (by kernel_rfl))
  f318 := Tryz.func289.trans (congrArg some (by kernel_rfl))
  f319 := Tryz.func290.trans (congrArg some (by kernel_rfl))
  f320 := Tryz.func291.trans (congrArg some (by kernel_rfl))
  f337 := Tryz.func315.trans (congrArg some (by kernel_rfl))
  f338 := Tryz.func316.trans (congrArg some (by kernel_rfl))
  t0 := Tryz.underlying0
  a0 := Tryz.isAgg0
  z0 := Tryz.sizeOf0
  v0 := Tryz.zeroValue0
  t2 := Tryz.underlying2
  a2 := Tryz.isAgg2
  z2 := Tryz.sizeOf2
  v2 := Tryz.zeroValue2
  t3 := Tryz.underlying3
  a3 := Tryz.isAgg3
  z3 := Tryz.sizeOf3
  v3 := Tryz.zeroValue3
  t4 := Tryz.underlying4
  a4 := Tryz.isAgg4
  z4 := Tryz.sizeOf4
  v4 := Tryz.zeroValue4
  t5 := Tryz.underlying5
  a5 := Tryz.isAgg5
  z5 := Tryz.sizeOf5
  v5 := Tryz.zeroValue5
  t9 := Tryz.underlying9
  a9 := Tryz.isAgg9
  z9 := Tryz.sizeOf9
  v9 := Tryz.zeroValue9
  t20 := Tryz.underlying20
  a20 := Tryz.isAgg20
  z20 := Tryz.sizeOf20
  v20 := Tryz.zeroValue20
  t37 := Tryz.underlying76
  a37 := Tryz.isAgg76
  z37 := Tryz.sizeOf76
  v37 := Tryz.zeroValue76
  t46 := Tryz.underlying224
  a46 := Tryz.isAgg224
  z46 := Tryz.sizeOf224
  v46 := Tryz.zeroValue224
  t51 := Tryz.underlying277
  a51 := Tryz.isAgg277
  z51 := Tryz.sizeOf277
  v51 := Tryz.zeroValue277
  t53 := Tryz.underlying249
  a53 := Tryz.isAgg249
  z53 := Tryz.sizeOf249
  v53 := Tryz.zeroValue249
  t171 := Tryz.underlying248
  a171 := Tryz.isAgg248
  z171 := Tryz.sizeOf248
  v171 := Tryz.zeroValue248
  t173 := Tryz.underlying252
  a173 := Tryz.isAgg252
  z173 := Tryz.sizeOf252
  v173 := Tryz.zeroValue252
  t212 := Tryz.underlying293
  a212 := Tryz.isAgg293
  z212 := Tryz.sizeOf293
  v212 := Tryz.zeroValue293
  t213 := Tryz.underlying294
  a213 := Tryz.isAgg294
  z213 := Tryz.sizeOf294
  t232 := Tryz.underlying339
  a232 := Tryz.isAgg339
  z232 := Tryz.sizeOf339
  v232 := Tryz.zeroValue339
  t233 := Tryz.underlying340
  a233 := Tryz.isAgg340
  z233 := Tryz.sizeOf340
  v233 := Tryz.zeroValue340
  g17 := by kernel_rfl
  g18 := by kernel_rfl
  g19 := by kernel_rfl }
open Go.RowKit Go.Sort Go.Lib in
theorem Tryz.strconv_Itoa_small (i : Nat) (hi : i < 100) (w : World) :
    Calls Tryz.prog 53 #[.int .i64 i] w fun e w' => e = .returned (.string ⟨(Lib.decDigits i).toArray⟩) ∧ w' = w := Any.strconv_Itoa_small Tryz.lays171 i hi w
def Tryz.laysM316_ren : Go.Shelf.Ren := ⟨fun | 316 => 286 | n => n, fun | 9 => 9 | 3 => 3 | 4 => 4 | 37 => 76 | 0 => 0 | 127 => 155 | 5 => 5 | n => n, fun | n => n⟩
theorem Tryz.laysM316 : Go.Proofs.LaysM.n316 Tryz.prog Tryz.laysM316_ren := {
  mixed := by kernel_rfl
  f316 := Tryz.func286.trans (congrArg some (by kernel_rfl))
  t0 := Tryz.underlying0
  a0 := Tryz.isAgg0
  z0 := Tryz.sizeOf0
  v0 := Tryz.zeroValue0
  t3 := Tryz.underlying3
  a3 := Tryz.isAgg3
  z3 := Tryz.sizeOf3
  v3 := Tryz.zeroValue3
  t4 := Tryz.underlying4
  a4 := Tryz.isAgg4
  z4 := Tryz.sizeOf4
  v4 := Tryz.zeroValue4
  t9 := Tryz.underlying9
  a9 := Tryz.isAgg9
  z9 := Tryz.sizeOf9
  v9 := Tryz.zeroValue9
  t37 := Tryz.underlying76
  a37 := Tryz.isAgg76
  z37 := Tryz.sizeOf76
  v37 := Tryz.zeroValue76
  t127 := Tryz.underlying155
  a127 := Tryz.isAgg155
  z127 := Tryz.sizeOf155
  v127 := Tryz.zeroValue155
  t5 := Tryz.underlying5
  a5 := Tryz.isAgg5
  z5 := Tryz.sizeOf5
  v5 := Tryz.zeroValue5
  i0 := by kernel_rfl
  i3 := by kernel_rfl
  i4 := by kernel_rfl
  i5 := by kernel_rfl
  i9 := by kernel_rfl
  i37 := by kernel_rfl
  i127 := by kernel_rfl }
open Go.RowKit in
theorem Tryz.stringslite_Clone (s : ByteArray) (w : World) (hlim : s.size ≤ 281474976710656) :
    Calls Tryz.prog 286 #[.string s] w fun e w' => e = .returned (.string s) ∧ Below w.heap.size w w' := Any.stringslite_Clone Tryz.laysM316 s w hlim
end Go.Proofs

/- WALKS of a strings.Builder's writing. -/
namespace Go.Proofs.YtmaancidkpfopaaGreatDoor
open Go.RowKit

theorem sizeBuilder : (Tryz.prog.info? 92).map (·.size) = some 2 := by kernel_rfl
theorem liesBuilder : liesAt Tryz.prog Tryz.prog.depth 92 (2 / Tryz.prog.cellsOf 92) 0 92 1 = true := by kernel_rfl
theorem infoByte : (Tryz.prog.info? 5).map (fun i => (i.zero, i.size, i.bytes)) = some (some (.int .u8 0), 1, 1) := by kernel_rfl

set_option maxHeartbeats 1000000 in
set_option maxRecDepth 100000 in
theorem copyCheck_used (b : Nat) (w : World) (h0 : w.cell? ⟨b, 0, none⟩ = some (.pointer (some ⟨b, 0, none⟩))) :
    Calls Tryz.prog 146 #[.pointer (some ⟨b, 0, none⟩)] w fun e w' => e = .returned (.tuple #[]) ∧ w' = w := by
  obtain ⟨j, hj, _⟩ := Option.map_eq_some_iff.1 sizeBuilder
  go_enter Tryz.func146, Tryz.ntmps146
  go_wp2
  rw [Lib.run_neq_ptr_same w _ Tryz.underlying90 hj]
  go_wp2
  go_end0
  exact ⟨rfl, rfl⟩

set_option maxHeartbeats 1000000 in
set_option maxRecDepth 100000 in
theorem copyCheck_fresh (b : Nat) (w : World) (h0 : w.cell? ⟨b, 0, none⟩ = some (.pointer none)) (hsh : w.shape? b = some (92, 2)) (hfz : w.frozen? ⟨b, 0, none⟩ = false) :
    Calls Tryz.prog 146 #[.pointer (some ⟨b, 0, none⟩)] w fun e w' => e = .returned (.tuple #[]) ∧ w' = w.setCell ⟨b, 0, none⟩ (.pointer (some ⟨b, 0, none⟩)) := by
  obtain ⟨j, hj, hjs⟩ := Option.map_eq_some_iff.1 sizeBuilder
  go_enter Tryz.func146, Tryz.ntmps146
  go_wp2
  rw [Lib.run_to_unsafe w ⟨b, 0, none⟩ Tryz.underlying90 Tryz.underlying206 hj (by rw [hjs]; decide) hsh (Nat.zero_lt_succ 1)]
  simp only [Result.andThen]
  rw [Oper.upon_value]
  go_wp2
  rw [run_callFunc_extern Tryz.func215 (by kernel_rfl) (by kernel_rfl) (by kernel_rfl) (e := Extern.AbiNoEscape.same) (by kernel_rfl)]
  rw [Lib.run_noEscape]
  simp only [Result.andThen]
  rw [Oper.upon_value]
  go_wp2
  rw [Lib.run_from_unsafe w ⟨b, 0, none⟩ Tryz.underlying206 Tryz.underlying90 hj hsh liesBuilder]
  simp only [Result.andThen]
  rw [Oper.upon_value]
  go_wp2
  go_end0
  exact ⟨rfl, rfl⟩

theorem copyCheck_any (B b : Nat) (bs : List Value) (w : World) (h : Lib.IsBuilder 92 5 B b bs w) :
    Calls Tryz.prog 146 #[.pointer (some ⟨b, 0, none⟩)] w fun e w' => e = .returned (.tuple #[]) ∧ (Lib.BuilderAt 92 5 B b (.pointer (some ⟨b, 0, none⟩)) bs w' ∧ Below B w w') := by
  rcases h with h | h
  · refine (copyCheck_fresh b w h.cell0 h.shape h.frozen0).mono ?_
    rintro e w' ⟨rfl, rfl⟩
    exact ⟨rfl, h.used _, (Below.refl B w).setCell (p := ⟨b, 0, none⟩) h.1 _⟩
  · refine (copyCheck_used b w h.cell0).mono ?_
    rintro e w' ⟨rfl, rfl⟩
    exact ⟨rfl, h, Below.refl B _⟩

set_option maxHeartbeats 2000000 in
set_option maxRecDepth 100000 in
theorem writeString_any (B b : Nat) (bs : List Value) (s : ByteArray) (w : World) (h : Lib.IsBuilder 92 5 B b bs w) (hlen : bs.length + s.size ≤ 140737488355328) (hBw : B ≤ w.heap.size) :
    Calls Tryz.prog 52 #[.pointer (some ⟨b, 0, none⟩), .string s] w fun e w' => e = .returned (.tuple #[.int .i64 s.size, .nilIface]) ∧ (Lib.IsBuilder 92 5 B b (bs ++ Lib.strCells s) w' ∧ Below B w w') := by
  obtain ⟨i0, hi, hz0, hz1, hz2⟩ := info_parts infoByte
  go_enter Tryz.func52, Tryz.ntmps52
  go_wp2_with (go_at_call 146; refine (copyCheck_any B b bs _ h).mono ?_)
  rintro e w1 ⟨rfl, h1, hb1⟩
  obtain ⟨hB, v, hbk, hown, hne⟩ := h1
  have c0 : w1.cell? ⟨b, 0, none⟩ = some (.pointer (some ⟨b, 0, none⟩)) := by rw [Lib.cell_of_heap hbk]; rfl
  have c1 : w1.cell? ⟨b, 1, none⟩ = some v := by rw [Lib.cell_of_heap hbk]; rfl
  go_wp2_with (at_builtin; refine Lib.wpList_append_own_string _ rfl _ _ 76 9 rfl B 5 i0 Tryz.underlying76 Tryz.underlying9 hi hz0 hz1 hz2 _ _ _ rfl hown s rfl ?c3 ?c4 ?c5 ?_)
  case c3 => unfold maxLen; omega
  case c4 => omega
  case c5 => have := hb1.size; omega
  intro v' w2 hown' hgrow _
  have hlt : b < w1.heap.size := by
    rcases Nat.lt_or_ge b w1.heap.size with h' | h'
    · exact h'
    · simp [Array.getElem?_eq_none h'] at hbk
  have hb2 : w2.heap[b]? = some (.cells #[.pointer (some ⟨b, 0, none⟩), v] 92 (0, 0)) := by
    rw [hgrow.block b hlt (fun e => hne e.symm)]
    exact hbk
  have d0 : w2.cell? ⟨b, 0, none⟩ = some (.pointer (some ⟨b, 0, none⟩)) := by rw [Lib.cell_of_heap hb2]; rfl
  have d1 : w2.cell? ⟨b, 1, none⟩ = some v := by rw [Lib.cell_of_heap hb2]; rfl
  have f1 : w2.frozen? ⟨b, 1, none⟩ = false := Lib.frozen_of_heap hb2 1
  obtain ⟨ao, n', cap, rfl⟩ : ∃ ao n' cap, v' = .slice ao n' cap := by
    rcases hown'.2 with ⟨hv, _⟩ | ⟨g, cap, cur, hv, _⟩
    · exact ⟨_, _, _, hv⟩
    · exact ⟨_, _, _, hv⟩
  go_wp2
  go_ret2
  refine ⟨rfl, .inr ?_, ?_⟩
  · exact Lib.BuilderAt.put (T := 92) (e := 5) hB hb2 (bs' := bs ++ Lib.strCells s) (by simpa [Lib.strCells_length] using hown') (by decide)
  · exact (hb1.grown hgrow (by have := hb1.size; omega) (fun k hk => (hown.lt k hk).1)).setCell (p := ⟨b, 1, none⟩) hB _
end Go.Proofs.YtmaancidkpfopaaGreatDoor

/- WALKS of the encoding of single replies. -/
namespace Go.Proofs.YtmaancidkpfopaaGreatDoor
open Go.RowKit

/-- strconv.Itoa answers, in every world that is as w0 below block B. -/
def ItoaOk (B : Nat) (w0 : World) (n : Int) : Prop :=
  ∀ w1, Below B w0 w1 → Calls Tryz.prog 53 #[.int .i64 n] w1 fun e w' => e = .returned (.string ⟨(Lib.itoa n).toArray⟩) ∧ Below w1.heap.size w1 w'

theorem itoaOk_small (B : Nat) (w0 : World) (n : Nat) (h : n < 100) : ItoaOk B w0 n := by
  intro w1 _
  refine (Tryz.strconv_Itoa_small n h w1).mono ?_
  rintro e w' ⟨rfl, rfl⟩
  refine ⟨?_, Below.refl _ _⟩
  rw [Lib.itoa, if_neg (by omega), Int.toNat_natCast]

/-- the bytes of a single reply -/
def pEnc1 (k : Int) (t : List UInt8) (n : Int) : List UInt8 :=
  if k = 1 then 43 :: (t ++ [13, 10]) else if k = 2 then 45 :: (Lib.itoa n ++ [13, 10]) else if k = 3 then 58 :: (Lib.itoa n ++ [13, 10]) else
  if k = 4 then 36 :: (Lib.itoa t.length ++ 13 :: 10 :: (t ++ [13, 10])) else [36, 45, 49, 13, 10]

theorem ba_ext {a : ByteArray} {l : List UInt8} (h : a.data.toList = l) : a = ⟨l.toArray⟩ := by
  cases a with
  | mk d => simp only at h; rw [← h]

set_option maxRecDepth 100000 in
set_option maxHeartbeats 1000000 in
theorem encSingle_any (B : Nat) (w0 : World) (k : Int) (t : ByteArray) (n : Int) (a : Option Addr) (len cap : Nat) (w : World) (hw : Below B w0 w) (hB : B ≤ w.heap.size) (ht : t.size ≤ 281474976710656)
    (hn : k = 2 ∨ k = 3 → ItoaOk B w0 n ∧ (Lib.itoa n).length ≤ 20) (h4 : k = 4 → ItoaOk B w0 t.size ∧ (Lib.itoa t.size).length ≤ 20) :
    Calls Tryz.prog 51 #[.agg #[.int .i64 k, .string t, .int .i64 n, .slice a len cap]] w fun e w' => e = .returned (.string ⟨(pEnc1 k t.data.toList n).toArray⟩) ∧ Below w.heap.size w w' := by
  have hw1 : ∀ o, Below B w0 (w.alloc o) := fun o => hw.alloc hB o
  have HW := hide hw1
  clear hw1 hw
  by_cases k1 : k = 1
  · subst k1
    have HP : Hid (pEnc1 1 t.data.toList n = 43 :: (t.data.toList ++ [13, 10])) := by rw [Hid, pEnc1, if_pos rfl]
    clear hn h4
    go_enter Tryz.func51, Tryz.ntmps51
    go_wp2
    go_ret
    refine ⟨?_, (Below.refl _ _).alloc (Nat.le_refl _) _⟩
    rw [HP.out]
    exact congrArg (fun x => Ending.returned (.string x)) (ba_ext (by simp))
  · by_cases k2 : k = 2
    · subst k2
      have HP : Hid (pEnc1 2 t.data.toList n = 45 :: (Lib.itoa n ++ [13, 10])) := by rw [Hid, pEnc1, if_neg (by decide), if_pos rfl]
      obtain ⟨hI, hL⟩ := hn (.inl rfl)
      have HI := hide hI
      clear hn h4 k1 hI
      go_enter Tryz.func51, Tryz.ntmps51
      go_wp2_with (go_at_call 53; refine (HI.out _ (HW.out _)).mono ?_; rintro e w1 ⟨rfl, hb1⟩)
      go_ret
      refine ⟨?_, ((Below.refl _ w).alloc (Nat.le_refl _) _).trans (hb1.mono (by simp))⟩
      rw [HP.out]
      exact congrArg (fun x => Ending.returned (.string x)) (ba_ext (by simp))
    · by_cases k3 : k = 3
      · subst k3
        have HP : Hid (pEnc1 3 t.data.toList n = 58 :: (Lib.itoa n ++ [13, 10])) := by rw [Hid, pEnc1, if_neg (by decide), if_neg (by decide), if_pos rfl]
        obtain ⟨hI, hL⟩ := hn (.inr rfl)
        have HI := hide hI
        clear hn h4 k1 k2 hI
        go_enter Tryz.func51, Tryz.ntmps51
        go_wp2_with (go_at_call 53; refine (HI.out _ (HW.out _)).mono ?_; rintro e w1 ⟨rfl, hb1⟩)
        go_ret
        refine ⟨?_, ((Below.refl _ w).alloc (Nat.le_refl _) _).trans (hb1.mono (by simp))⟩
        rw [HP.out]
        exact congrArg (fun x => Ending.returned (.string x)) (ba_ext (by simp))
      · by_cases k4 : k = 4
        · subst k4
          have HP : Hid (pEnc1 4 t.data.toList n = 36 :: (Lib.itoa t.size ++ 13 :: 10 :: (t.data.toList ++ [13, 10]))) := by rw [Hid, pEnc1, if_neg (by decide), if_neg (by decide), if_neg (by decide), if_pos rfl, size_list]
          obtain ⟨hI, hL⟩ := h4 rfl
          have HI := hide hI
          clear hn h4 k1 k2 k3 hI
          go_enter Tryz.func51, Tryz.ntmps51
          go_wp2
          go_region_with (go_at_call 53; refine (HI.out _ (HW.out _).drew).mono ?_; rintro e w1 ⟨rfl, hb1⟩; have hc1 : w1.cell? ⟨w.heap.size, 1, none⟩ = some (.string t) := (Kept.of_below hb1 (fun _ => False)).cell' (by simp [go_sem]) (fun e => e))
          all_goals
            go_wp2
            go_ret
            refine ⟨?_, ((Below.refl _ w).alloc (Nat.le_refl _) _).trans (Below.mono ⟨hb1.os, hb1.tape, hb1.output, hb1.size, hb1.block⟩ (by simp))⟩
            rw [HP.out]
            exact congrArg (fun x => Ending.returned (.string x)) (ba_ext (by simp))
        · have HP : Hid (pEnc1 k t.data.toList n = [36, 45, 49, 13, 10]) := by rw [Hid, pEnc1, if_neg k1, if_neg k2, if_neg k3, if_neg k4]
          clear hn h4
          have e1 : (k == 1) = false := by simpa using k1
          have e2 : (k == 2) = false := by simpa using k2
          have e3 : (k == 3) = false := by simpa using k3
          have e4 : (k == 4) = false := by simpa using k4
          go_enter Tryz.func51, Tryz.ntmps51
          go_wp2
          go_ret
          refine ⟨?_, (Below.refl _ _).alloc (Nat.le_refl _) _⟩
          rw [HP.out]
          rfl
end Go.Proofs.YtmaancidkpfopaaGreatDoor

/- WALKS of Encode. -/
namespace Go.Proofs.YtmaancidkpfopaaGreatDoor
open Go.RowKit

theorem builder_kept {T e : TypeId} {B b : Nat} {p : Value} {bs : List Value} {w w' : World} (h : Lib.BuilderAt T e B b p bs w) (hb : Below w.heap.size w w') : Lib.BuilderAt T e B b p bs w' := by
  obtain ⟨h1, v, h2, h3, h4⟩ := h
  refine ⟨h1, v, ?_, ?_, h4⟩
  · rw [hb.block b (Array.getElem?_eq_some_iff.1 h2).1]; exact h2
  · exact (Kept.of_below hb (fun _ => False)).owns h3 (fun _ _ e => e)
theorem isBuilder_kept {T e : TypeId} {B b : Nat} {bs : List Value} {w w' : World} (h : Lib.IsBuilder T e B b bs w) (hb : Below w.heap.size w w') : Lib.IsBuilder T e B b bs w' := by
  rcases h with h | h
  · exact .inl (builder_kept h hb)
  · exact .inr (builder_kept h hb)

def Rep.enc (r : Rep) : List UInt8 := pEnc1 r.k r.t.data.toList r.n
/-- what encoding one reply asks -/
def Rep.fits (B : Nat) (w0 : World) (r : Rep) : Prop :=
  (r.k = 2 ∨ r.k = 3 → ItoaOk B w0 r.n ∧ (Lib.itoa r.n).length ≤ 20) ∧ (r.k = 4 → ItoaOk B w0 r.t.size ∧ (Lib.itoa r.t.size).length ≤ 20) ∧ r.t.size ≤ 60

theorem itoa_len_cast (t : ByteArray) : (Lib.itoa (t.data.toList.length : Int)) = Lib.itoa t.size := by rw [size_list]

theorem Rep.enc_le {B : Nat} {w0 : World} {r : Rep} (h : r.fits B w0) : r.enc.length ≤ 100 := by
  obtain ⟨h1, h2, h3⟩ := h
  have hs := size_list r.t
  unfold Rep.enc pEnc1
  split
  · simp; omega
  · split
    · rename_i e; have := (h1 (.inl e)).2; simp; omega
    · split
      · rename_i e; have := (h1 (.inr e)).2; simp; omega
      · split
        · rename_i e; have := (h2 e).2; rw [itoa_len_cast]; simp; omega
        · simp

theorem pBody_take_succ (rs : List Rep) (k : Nat) (h : k < rs.length) : (rs.take (k + 1)).map Rep.enc = (rs.take k).map Rep.enc ++ [rs[k].enc] := by
  rw [List.take_succ_eq_append_getElem h, List.map_append, List.map_cons, List.map_nil]
def pBody (rs : List Rep) : List UInt8 := (rs.map Rep.enc).flatten
def pEncList (rs : List Rep) : List UInt8 := (42 :: (Lib.itoa rs.length ++ [13, 10])) ++ pBody rs

theorem pBody_le {B : Nat} {w0 : World} : ∀ (rs : List Rep), (∀ r ∈ rs, r.fits B w0) → (pBody rs).length ≤ rs.length * 100
  | [], _ => by simp [pBody]
  | r :: rs, h => by
    have h1 := Rep.enc_le (h r (by simp))
    have h2 := pBody_le rs (fun x hx => h x (by simp [hx]))
    simp only [pBody, List.map_cons, List.flatten_cons, List.length_append, List.length_cons] at *
    omega

theorem strCells_mk (l : List UInt8) : Lib.strCells ⟨l.toArray⟩ = Lib.byteCells l := by simp [Lib.strCells, Lib.byteCells]
theorem byteCells_append (a b : List UInt8) : Lib.byteCells a ++ Lib.byteCells b = Lib.byteCells (a ++ b) := by simp [Lib.byteCells]

set_option maxRecDepth 100000 in
set_option maxHeartbeats 1000000 in
theorem encode_err (t : ByteArray) (k n : Int) (a : Option Addr) (cap : Nat) (rs : List Rep) (w : World) (ht : t.size ≤ maxLen) (hl : ListAt w a rs) (hne : ¬ pCheck k t n rs = 0) :
    Calls Tryz.prog 30 #[.agg #[.int .i64 k, .string t, .int .i64 n, .slice a rs.length cap]] w fun e w' => e = .returned (.tuple #[.string ⟨#[]⟩, .int .i64 (pCheck k t n rs)]) ∧ Below w.heap.size w w' := by
  have hl1 : ∀ o, ListAt (w.alloc o) a rs := fun o => by
    rcases hl with hl | ⟨b, off, ha, hr⟩
    · exact .inl hl
    · exact .inr ⟨b, off, ha, hr.kept (S := fun _ => False) ((Kept.refl _ w).alloc o) (fun e => e)⟩
  have HL := hide hl1
  have HT := hide ht
  have hb : (pCheck k t n rs != 0) = true := by rw [bne_iff_ne]; exact hne
  clear hl1 hl hne ht
  go_enter Tryz.func30, Tryz.ntmps30
  go_wp2_with (go_at_call 50; refine (replyCheck_any k t n a cap rs _ (unhide HT) (HL.out _)).mono ?_; rintro e w1 ⟨rfl, hb1⟩)
  go_ret2
  exact ⟨rfl, ((Below.refl _ w).alloc (Nat.le_refl _) _).trans (hb1.mono (by simp))⟩

set_option maxRecDepth 100000 in
set_option maxHeartbeats 1000000 in
theorem encode_list (B : Nat) (w0 : World) (t : ByteArray) (b off cap : Nat) (rs : List Rep) (w : World) (hw : Below B w0 w) (hB : B ≤ w.heap.size) (ht : t.toList = []) (h : Reps w b off rs) (hlen : rs.length ≤ 300) (hc : pFirst rs = 0)
    (hI : ItoaOk B w0 rs.length ∧ (Lib.itoa rs.length).length ≤ 20) (hf : ∀ r ∈ rs, r.fits B w0) :
    Calls Tryz.prog 30 #[.agg #[.int .i64 6, .string t, .int .i64 0, .slice (some ⟨b, off, none⟩) rs.length cap]] w fun e w' => e = .returned (.tuple #[.string ⟨(pEncList rs).toArray⟩, .int .i64 0]) ∧ Below w.heap.size w w' := by
  have HF := hide hf
  have HC : Hid (∀ o, Calls Tryz.prog 50 #[.agg #[.int .i64 6, .string t, .int .i64 0, .slice (some ⟨b, off, none⟩) rs.length cap]] (w.alloc o) fun e w' => e = .returned (.int .i64 0) ∧ Below (w.alloc o).heap.size (w.alloc o) w') := fun o => by
    have := checkList_any b off cap rs (w.alloc o) (h.kept (S := fun _ => False) ((Kept.refl _ w).alloc o) (fun e => e)) hlen t ht
    rw [hc] at this
    exact this
  have HH := hide h
  obtain ⟨hI1, hI2⟩ := hI
  have HI := hide hI1
  have HW := hide hw
  clear hf h hI1 hw hc
  go_enter Tryz.func30, Tryz.ntmps30
  go_wp2_with (go_at_call 50; refine (HC.out _).mono ?_; rintro e w1 ⟨rfl, hb1⟩; obtain ⟨hc1, hf1⟩ := bcell hb1; have hz : w.heap.size < w1.heap.size := by have := hb1.size; simp at this; omega)
  have hx1 : Below B w0 (w1.alloc (.cells #[.pointer none, .slice none 0 0] 92)) :=
    (((HW.out.alloc hB _).trans (hb1.mono (by simp; omega))).alloc (by omega) _)
  have hcl : w1.cell? ⟨w.heap.size, 3, none⟩ = some (.slice (some ⟨b, off, none⟩) rs.length cap) := by
    rw [hc1 _ _ (by simp)]
    simp [go_sem]
  have hreps : Reps w1 b off rs := (HH.out.kept (S := fun _ => False) ((Kept.refl _ w).alloc _) (fun e => e)).kept (Kept.of_below hb1 (fun _ => False)) (fun e => e)
  have hww1 : Below w.heap.size w w1 := ((Below.refl _ w).alloc (Nat.le_refl _) _).trans (hb1.mono (by simp))
  have HWW := hide hww1
  have HR := hide hreps
  have HCL := hide hcl
  have hib : Lib.IsBuilder 92 5 w1.heap.size w1.heap.size [] (w1.alloc (.cells #[.pointer none, .slice none 0 0] 92)) :=
    .inl ⟨Nat.le_refl _, .slice none 0 0, heap_alloc_new w1 _, World.ownsRow_nil _ _ _ _, by simp [Value.ownBlock]⟩
  have HIB := hide hib
  clear hc1 hf1 hb1 hcl hreps hww1 hib HC HH
  refine (HI.out _ hx1).mono ?_
  rintro e w2 ⟨rfl, hb2⟩
  have hib2 := isBuilder_kept HIB.out hb2
  have hz2 : w1.heap.size + 1 ≤ w2.heap.size := by have := hb2.size; simpa using this
  have h12 : Below w1.heap.size w1 w2 := ((Below.refl _ w1).alloc (Nat.le_refl _) _).trans (hb2.mono (by simp))
  have H12 := hide h12
  have HIB2 := hide hib2
  clear HIB HI hx1 hb2 h12 hib2
  go_wp2_with fail
  have hhead : (⟨#[42]⟩ ++ ⟨(Lib.itoa rs.length).toArray⟩ ++ ⟨#[13, 10]⟩ : ByteArray) = ⟨(42 :: (Lib.itoa rs.length ++ [13, 10])).toArray⟩ := ba_ext (by simp)
  rw [hhead]
  clear hhead
  refine (writeString_any w1.heap.size w1.heap.size [] _ w2 HIB2.out (by rw [size_mk]; simp; omega) (by omega)).mono ?_
  rintro e w3 ⟨rfl, hib3, hb3⟩
  rw [List.nil_append, strCells_mk] at hib3
  have h13 : Below w1.heap.size w1 w3 := H12.out.trans hb3
  have hcl3 : w3.cell? ⟨w.heap.size, 3, none⟩ = some (.slice (some ⟨b, off, none⟩) rs.length cap) := (h13.cell (p := ⟨w.heap.size, 3, none⟩) hz).trans HCL.out
  have HIB3 := hide hib3
  have H13 := hide h13
  clear HIB2 H12 hb3 hib3 h13
  go_wp2_with fail
  clear hcl3
  go_loopw [28] (fun i wr => ∃ k : Nat, k ≤ rs.length ∧ i = .int .i64 k ∧ Hid (Lib.IsBuilder 92 5 w1.heap.size w1.heap.size (Lib.byteCells ((42 :: (Lib.itoa rs.length ++ [13, 10])) ++ pBody (rs.take k))) wr) ∧ Hid (Below w1.heap.size w1 wr)) (fun i _ => rs.length - (intOf i).toNat)
  case atStart => exact ⟨0, Nat.zero_le _, rfl, by rw [List.take_zero]; simpa [Hid, pBody] using HIB3.out, H13⟩
  case round =>
    clear HIB3 H13 HCL
    obtain ⟨k, hk, rfl, HB, HK⟩ := hrel
    have hzr : w1.heap.size ≤ wr.heap.size := HK.out.size
    by_cases hlt : k < rs.length
    · have hbl : b < w1.heap.size := World.block_lt_of_cell? w1 _ (HR.out.c0 k hlt)
      have e0 : wr.cell? ⟨b, off + k * 4, none⟩ = some (.int .i64 rs[k].k) := (HK.out.cell (p := ⟨b, off + k * 4, none⟩) hbl).trans (HR.out.c0 k hlt)
      have e1 : wr.cell? ⟨b, off + k * 4 + 1, none⟩ = some (.string rs[k].t) := (HK.out.cell (p := ⟨b, off + k * 4 + 1, none⟩) hbl).trans (HR.out.c1 k hlt)
      have e2 : wr.cell? ⟨b, off + k * 4 + 2, none⟩ = some (.int .i64 rs[k].n) := (HK.out.cell (p := ⟨b, off + k * 4 + 2, none⟩) hbl).trans (HR.out.c2 k hlt)
      have e3 : wr.cell? ⟨b, off + k * 4 + 3, none⟩ = some (.slice rs[k].a rs[k].len rs[k].cap) := (HK.out.cell (p := ⟨b, off + k * 4 + 3, none⟩) hbl).trans (HR.out.c3 k hlt)
      have hfit := HF.out rs[k] (List.getElem_mem hlt)
      have hel := Rep.enc_le hfit
      have HFIT := hide hfit
      have HEL := hide hel
      clear hfit hel
      have hBr : Hid (∀ o, Below B w0 (wr.alloc o)) := fun o => ((HW.out.trans (HWW.out.mono hB)).trans (HK.out.mono (by omega))).alloc (by omega) o
      have hbody := pBody_le (rs.take k) (fun x hx => HF.out x (List.mem_of_mem_take hx))
      have hlk : (rs.take k).length ≤ 300 := by rw [List.length_take]; omega
      have HBODY := hide hbody
      clear hbody
      go_wp2_with fail
      refine (encSingle_any B w0 _ _ _ _ _ _ _ (hBr.out _) (by simp; omega) (by have := HFIT.out.2.2; omega) HFIT.out.1 HFIT.out.2.1).mono ?_
      rintro e w4 ⟨rfl, hb4⟩
      have hib4 := isBuilder_kept (isBuilder_kept HB.out ((Below.refl _ wr).alloc (Nat.le_refl _) _)) hb4
      have hz4 : wr.heap.size + 1 ≤ w4.heap.size := by have := hb4.size; simpa using this
      have h4 : Below w1.heap.size wr w4 := ((Below.refl _ wr).alloc hzr _).trans (hb4.mono (by simp; omega))
      have HIB4 := hide hib4
      have H4 := hide h4
      clear hib4 h4 hb4 e0 e1 e2 e3 HB
      go_wp2_with fail
      refine (writeString_any w1.heap.size w1.heap.size _ _ w4 HIB4.out ?_ (by omega)).mono ?_
      · have := HBODY.out
        have := HEL.out
        simp only [Rep.enc] at this
        rw [size_mk, Lib.byteCells_length]
        simp
        omega
      rintro e w5 ⟨rfl, hib5, hb5⟩
      rw [strCells_mk, byteCells_append] at hib5
      have hib6 : Lib.IsBuilder 92 5 w1.heap.size w1.heap.size (Lib.byteCells ((42 :: (Lib.itoa rs.length ++ [13, 10])) ++ pBody (rs.take (k + 1)))) w5 := by
        have e6 : pBody (rs.take (k + 1)) = pBody (rs.take k) ++ pEnc1 rs[k].k rs[k].t.data.toList rs[k].n := by
          simp only [pBody, pBody_take_succ rs k hlt, List.flatten_append, List.flatten_cons, List.flatten_nil, List.append_nil, Rep.enc]
        rw [e6, ← List.append_assoc]
        exact hib5
      have HIB6 := hide hib6
      have H6 : Hid (Below w1.heap.size w1 w5) := (HK.out.trans H4.out).trans hb5
      clear hib5 hib6 hb5
      go_wp2
      go_roundw
      case rel => exact ⟨k + 1, by omega, by go_num, HIB6, H6⟩
      case measure => simp [intOf]; omega
    · have hkk : k = rs.length := by omega
      subst hkk
      rw [List.take_length] at HB
      go_wp2_with fail
      refine (Tryz.Builder_String_any w1.heap.size w1.heap.size _ wr HB.out hzr).mono ?_
      rintro e w4 ⟨rfl, hb4⟩
      go_wp2
      go_ret2
      have hEL : pEncList rs = 42 :: (Lib.itoa rs.length ++ 13 :: 10 :: pBody rs) := by simp [pEncList]
      rw [hEL]
      exact ⟨rfl, HWW.out.trans ((HK.out.trans hb4).mono (by omega))⟩
end Go.Proofs.YtmaancidkpfopaaGreatDoor

/- WALK of Words. -/
namespace Go.Proofs.YtmaancidkpfopaaGreatDoor
open Go.RowKit

/-- texts that lie from an offset of a block on -/
structure StrsAt (w : World) (b off : Nat) (ss : List ByteArray) : Prop where
  c : ∀ i (h : i < ss.length), w.cell? ⟨b, off + i, none⟩ = some (.string ss[i])
def Strs (w : World) (a : Option Addr) (ss : List ByteArray) : Prop := ss = [] ∨ ∃ b off, a = some ⟨b, off, none⟩ ∧ StrsAt w b off ss

def Rep.ofBytes (s : ByteArray) : Rep := ⟨4, s, 0, none, 0, 0⟩
def cells4 (s : ByteArray) : List Value := [.int .i64 4, .string s, .int .i64 0, .slice none 0 0]

def rowOf (l : List ByteArray) : List Value := (l.map cells4).flatten
theorem rowOf_snoc (l : List ByteArray) (s : ByteArray) : rowOf (l ++ [s]) = rowOf l ++ cells4 s := by simp [rowOf]
theorem rowOf_take (ss : List ByteArray) (k : Nat) (h : k < ss.length) : rowOf (ss.take (k + 1)) = rowOf (ss.take k) ++ cells4 ss[k] := by
  rw [List.take_succ_eq_append_getElem h, rowOf_snoc]
theorem rowOf_get : ∀ (l : List ByteArray) (i j : Nat) (h : i < l.length), j < 4 → (rowOf l)[i * 4 + j]? = (cells4 l[i])[j]?
  | [], i, j, h, _ => by simp at h
  | s :: l, 0, j, h, hj => by
    simp only [rowOf, List.map_cons, List.flatten_cons]
    rw [List.getElem?_append_left (by simp [cells4]; omega)]
    simp
  | s :: l, i + 1, j, h, hj => by
    have := rowOf_get l i j (by simpa using h) hj
    simp only [rowOf, List.map_cons, List.flatten_cons] at this ⊢
    rw [List.getElem?_append_right (by simp [cells4]; omega)]
    have e : (i + 1) * 4 + j - (cells4 s).length = i * 4 + j := by simp [cells4]; omega
    rw [e, this]
    simp

theorem infoReply : (Tryz.prog.info? 27).map (fun i => (i.zero, i.size, i.bytes)) = some (some (.agg #[.int .i64 0, .string ⟨#[]⟩, .int .i64 0, .slice none 0 0]), 4, 56) := by kernel_rfl

set_option maxRecDepth 100000 in
set_option maxHeartbeats 1000000 in
theorem words_none (a : Option Addr) (cap : Nat) (w : World) :
    Calls Tryz.prog 19 #[.slice a 0 cap] w fun e w' => e = .returned (.tuple #[.string ⟨#[]⟩, .int .i64 1]) ∧ Below w.heap.size w w' := by
  go_enter Tryz.func19, Tryz.ntmps19
  go_wp2
  go_ret2
  exact ⟨rfl, Below.refl _ _⟩

set_option maxRecDepth 100000 in
set_option maxHeartbeats 1000000 in
theorem words_many (a : Option Addr) (n cap : Nat) (w : World) (hn : (12 : Int) < n) :
    Calls Tryz.prog 19 #[.slice a n cap] w fun e w' => e = .returned (.tuple #[.string ⟨#[]⟩, .int .i64 2]) ∧ Below w.heap.size w w' := by
  have h0 : ((n : Int) == 0) = false := by simp; omega
  go_enter Tryz.func19, Tryz.ntmps19
  go_wp2
  go_ret2
  exact ⟨rfl, Below.refl _ _⟩

/-- what lies in the row that Words makes, read as replies -/
theorem reps_of_row {w : World} {g cap base : Nat} {ss : List ByteArray} (h : w.ownsRow base 27 4 (.slice (some ⟨g, 0, none⟩) ss.length cap) ss.length (rowOf ss)) (hs : ∀ s ∈ ss, s.size ≤ maxLen) :
    Reps w g 0 (ss.map Rep.ofBytes) := by
  have hl : (rowOf ss).length = ss.length * 4 := h.1
  have hc : ∀ i j, i < ss.length → j < 4 → w.cell? ⟨g, i * 4 + j, none⟩ = (rowOf ss)[i * 4 + j]? := fun i j hi hj => h.cellAt (i * 4 + j) (by omega)
  refine ⟨?_, ?_, ?_, ?_, ?_⟩
  · intro i hi
    rw [List.length_map] at hi
    have := hc i 0 hi (by omega)
    rw [rowOf_get ss i 0 hi (by omega)] at this
    simpa [cells4, Rep.ofBytes] using this
  · intro i hi
    rw [List.length_map] at hi
    have := hc i 1 hi (by omega)
    rw [rowOf_get ss i 1 hi (by omega)] at this
    simpa [cells4, Rep.ofBytes] using this
  · intro i hi
    rw [List.length_map] at hi
    have := hc i 2 hi (by omega)
    rw [rowOf_get ss i 2 hi (by omega)] at this
    simpa [cells4, Rep.ofBytes] using this
  · intro i hi
    rw [List.length_map] at hi
    have := hc i 3 hi (by omega)
    rw [rowOf_get ss i 3 hi (by omega)] at this
    simpa [cells4, Rep.ofBytes] using this
  · intro r hr
    obtain ⟨s, hsm, rfl⟩ := List.mem_map.1 hr
    exact hs s hsm

set_option maxRecDepth 100000 in
set_option maxHeartbeats 1000000 in
theorem words_walk (b off cap : Nat) (ss : List ByteArray) (w : World) (h : StrsAt w b off ss) (h1 : 1 ≤ ss.length) (h12 : ss.length ≤ 12) (hs : ∀ s ∈ ss, s.size ≤ maxLen) (x : ByteArray) (code : Int)
    (H : ∀ w1 g cap, Below w.heap.size w w1 → Reps w1 g 0 (ss.map Rep.ofBytes) → Calls Tryz.prog 30 #[.agg #[.int .i64 6, .string ⟨#[]⟩, .int .i64 0, .slice (some ⟨g, 0, none⟩) ss.length cap]] w1 fun e w' => e = .returned (.tuple #[.string x, .int .i64 code]) ∧ Below w1.heap.size w1 w') :
    Calls Tryz.prog 19 #[.slice (some ⟨b, off, none⟩) ss.length cap] w fun e w' => e = .returned (.tuple #[.string x, .int .i64 code]) ∧ Below w.heap.size w w' := by
  obtain ⟨i0, hi, hz0, hz1, hz2⟩ := info_parts infoReply
  have h0 : ((ss.length : Int) == 0) = false := by rw [beq_eq_false_iff_ne]; omega
  have HH := hide H
  have HS := hide hs
  clear H hs
  go_enter Tryz.func19, Tryz.ntmps19
  go_wp2
  go_loopw [16] (fun i wr => ∃ (k : Nat) (V : Value), k ≤ ss.length ∧ i = .int .i64 k ∧ wr.cell? ⟨w.heap.size, 0, none⟩ = some (.int .i64 6) ∧ wr.cell? ⟨w.heap.size, 1, none⟩ = some (.string ⟨#[]⟩) ∧ wr.cell? ⟨w.heap.size, 2, none⟩ = some (.int .i64 0) ∧ wr.cell? ⟨w.heap.size, 3, none⟩ = some V ∧ wr.frozen? ⟨w.heap.size, 3, none⟩ = false ∧
      wr.ownsRow (w.heap.size + 1) 27 4 V k (rowOf (ss.take k)) ∧ Below w.heap.size w wr) (fun i _ => ss.length - (intOf i).toNat)
  case atStart => exact ⟨0, .slice none 0 0, Nat.zero_le _, rfl, by simp [go_sem], by simp [go_sem], by simp [go_sem], by simp [go_sem], by simp [go_sem], World.ownsRow_nil _ _ _ _, (Below.refl _ _).alloc (Nat.le_refl _) _⟩
  case round =>
    obtain ⟨k, V, hk, rfl, c0, c1, c2, c3, f3, hown, hb⟩ := hrel
    obtain ⟨ao, cp, rfl⟩ : ∃ ao cp, V = .slice ao k cp := by
      rcases hown.2 with ⟨rfl, rfl⟩ | ⟨g, cap, cur, rfl, _⟩
      · exact ⟨_, _, rfl⟩
      · exact ⟨_, _, rfl⟩
    have hwr : w.heap.size < wr.heap.size := World.block_lt_of_cell? _ _ c0
    by_cases hlt : k < ss.length
    · have hbl : b < w.heap.size := World.block_lt_of_cell? w _ (h.c k hlt)
      have hcs : wr.cell? ⟨b, off + k, none⟩ = some (.string ss[k]) := (hb.cell (p := ⟨b, off + k, none⟩) hbl).trans (h.c k hlt)
      go_wp2_with (at_builtin; refine wpList_append_own _ rfl _ _ 25 rfl (w.heap.size + 1) 27 i0 (.agg #[.int .i64 0, .string ⟨#[]⟩, .int .i64 0, .slice none 0 0]) 4 56 Tryz.underlying25 hi hz0 hz1 hz2 rfl (by decide) _ _ _ rfl (hown.alloc _) ⟨wr.heap.size, 0, none⟩ 1 1 (cells4 ss[k]) rfl rfl ?c1 ?c2 ?c3 ?c4 ?c5 ?_)
      case c1 =>
        intro j u hj
        match j, hj with
        | 0, hj => simp [cells4] at hj; subst hj; simp [Addr.add]
        | 1, hj => simp [cells4] at hj; subst hj; simp [Addr.add]
        | 2, hj => simp [cells4] at hj; subst hj; simp [Addr.add]
        | 3, hj => simp [cells4] at hj; subst hj; simp [Addr.add]
        | _ + 4, hj => simp [cells4] at hj
      case c2 =>
        intro u hu
        simp [cells4] at hu
        rcases hu with rfl | rfl | rfl | rfl <;> rfl
      case c3 => unfold maxLen; omega
      case c4 => omega
      case c5 => simp; omega
      intro v' w2 hown' hgrow _
      obtain ⟨ao', cp', rfl⟩ : ∃ ao cp, v' = .slice ao (k + 1) cp := by
        rcases hown'.2 with ⟨_, hz⟩ | ⟨g, cap, cur, rfl, _⟩
        · omega
        · exact ⟨_, _, rfl⟩
      rw [← rowOf_take ss k hlt] at hown'
      have hk2 : Kept (fun j => w.heap.size + 1 ≤ j) wr w2 := ((Kept.refl _ wr).alloc _).grown hgrow (fun j hj => .inl (hown.lt j hj).1)
      have d0 : w2.cell? ⟨w.heap.size, 0, none⟩ = some (.int .i64 6) := hk2.cell' c0 (by simp)
      have d1 : w2.cell? ⟨w.heap.size, 1, none⟩ = some (.string ⟨#[]⟩) := hk2.cell' c1 (by simp)
      have d2 : w2.cell? ⟨w.heap.size, 2, none⟩ = some (.int .i64 0) := hk2.cell' c2 (by simp)
      have d3 : w2.cell? ⟨w.heap.size, 3, none⟩ = some (.slice ao k cp) := hk2.cell' c3 (by simp)
      have df : w2.frozen? ⟨w.heap.size, 3, none⟩ = false := (hk2.frozen (p := ⟨w.heap.size, 3, none⟩) hwr (by simp)).trans f3
      have hb2 : Below w.heap.size w w2 := hb.trans (hk2.below (by omega) (fun j e => by omega))
      clear hk2 hgrow hown c0 c1 c2 c3 f3 hb hcs
      go_wp2
      go_roundw
      case rel =>
        refine ⟨k + 1, _, by omega, by go_num, ?_, ?_, ?_, World.cell?_setCell_same _ _ _ d3, by simp [df], ?_, hb2.setCell (p := ⟨w.heap.size, 3, none⟩) (Nat.le_refl _) _⟩
        · rw [World.cell?_setCell_other _ _ _ _ (by simp)]; exact d0
        · rw [World.cell?_setCell_other _ _ _ _ (by simp)]; exact d1
        · rw [World.cell?_setCell_other _ _ _ _ (by simp)]; exact d2
        · exact ((Kept.refl (one w.heap.size) w2).set1 3 _).owns hown' (fun j hj e => by have := (hown'.lt j hj).1; simp only [one] at e; omega)
      case measure => simp [intOf]; omega
    · have hkk : k = ss.length := by omega
      subst hkk
      rw [List.take_length] at hown
      obtain ⟨g, rfl⟩ : ∃ g, ao = some ⟨g, 0, none⟩ := by
        rcases hown.2 with ⟨_, hz⟩ | ⟨g, cap, cur, hv, _⟩
        · omega
        · exact ⟨g, by simp at hv; exact hv.1⟩
      have hR := reps_of_row hown HS.out
      have HR := hide hR
      clear hR hown
      go_wp2_with fail
      refine (HH.out wr g cp hb HR.out).mono ?_
      rintro e w2 ⟨rfl, hb2⟩
      go_wp2
      go_ret2
      exact ⟨rfl, hb.trans (hb2.mono (by omega))⟩
end Go.Proofs.YtmaancidkpfopaaGreatDoor

/- Words, whatever it is handed. -/
namespace Go.Proofs.YtmaancidkpfopaaGreatDoor
open Go.RowKit

def lst (s : ByteArray) : List UInt8 := s.data.toList
/-- the bytes of a word, of a command -/
def pWordB (x : List UInt8) : List UInt8 := 36 :: (Lib.itoa x.length ++ 13 :: 10 :: (x ++ [13, 10]))
def pWordsB (xs : List (List UInt8)) : List UInt8 := (42 :: (Lib.itoa xs.length ++ [13, 10])) ++ (xs.map pWordB).flatten
/-- what Words answers -/
def pWordsR (xs : List (List UInt8)) : List UInt8 × Nat :=
  if xs.length = 0 then ([], 1) else if 12 < xs.length then ([], 2) else if xs.any (fun x => decide (60 < x.length)) then ([], 2) else (pWordsB xs, 0)

theorem empty_list : (⟨#[]⟩ : ByteArray).toList = [] := by decide +kernel

theorem check1_bytes (s : ByteArray) : pCheck1 4 s 0 0 = if 60 < s.size then 2 else 0 := by
  simp [pCheck1, pOther]

theorem first_ok : ∀ (ss : List ByteArray), (∀ s ∈ ss, s.size ≤ 60) → pFirst (ss.map Rep.ofBytes) = 0
  | [], _ => rfl
  | s :: ss, h => by
    rw [List.map_cons, pFirst_ok]
    · exact first_ok ss (fun x hx => h x (by simp [hx]))
    · show pCheck1 4 s 0 0 = 0
      rw [check1_bytes, if_neg (by have := h s (by simp); omega)]
theorem first_bad : ∀ (ss : List ByteArray), (∃ s ∈ ss, 60 < s.size) → pFirst (ss.map Rep.ofBytes) = 2
  | [], h => by obtain ⟨s, h, _⟩ := h; cases h
  | s :: ss, h => by
    rw [List.map_cons]
    by_cases hs : 60 < s.size
    · have e : pCheck1 4 s 0 0 = 2 := by rw [check1_bytes, if_pos hs]
      rw [pFirst_bad (r := Rep.ofBytes s)]
      · exact e
      · show ¬ pCheck1 4 s 0 0 = 0
        rw [e]; decide
    · rw [pFirst_ok (r := Rep.ofBytes s)]
      · refine first_bad ss ?_
        obtain ⟨x, hx, h6⟩ := h
        rcases List.mem_cons.1 hx with rfl | hx
        · exact absurd h6 hs
        · exact ⟨x, hx, h6⟩
      · show pCheck1 4 s 0 0 = 0
        rw [check1_bytes, if_neg hs]

theorem itoa_small_len (n : Nat) (h : n < 100) : (Lib.itoa (n : Int)).length ≤ 20 := by
  have : ∀ m : Fin 100, (Lib.itoa ((m.val : Nat) : Int)).length ≤ 20 := by decide +kernel
  exact this ⟨n, h⟩

theorem enc_words (ss : List ByteArray) : pEncList (ss.map Rep.ofBytes) = pWordsB (ss.map lst) := by
  have h : ∀ s : ByteArray, (Rep.ofBytes s).enc = pWordB (lst s) := fun s => by
    simp [Rep.enc, Rep.ofBytes, pEnc1, pWordB, lst]
  simp only [pEncList, pWordsB, pBody, List.length_map, List.map_map]
  have hf : Rep.enc ∘ Rep.ofBytes = pWordB ∘ lst := funext h
  rw [hf]

theorem words_any (a : Option Addr) (cap : Nat) (ss : List ByteArray) (w : World) (h : Strs w a ss) (hs : ∀ s ∈ ss, s.size ≤ maxLen) :
    Calls Tryz.prog 19 #[.slice a ss.length cap] w fun e w' => e = .returned (.tuple #[.string ⟨(pWordsR (ss.map lst)).1.toArray⟩, .int .i64 (pWordsR (ss.map lst)).2]) ∧ Below w.heap.size w w' := by
  rcases h with rfl | ⟨b, off, rfl, hA⟩
  · exact words_none a cap w
  · by_cases h0 : ss.length = 0
    · have : ss = [] := List.eq_nil_of_length_eq_zero h0
      subst this
      exact words_none _ cap w
    · by_cases h12 : 12 < ss.length
      · have e : pWordsR (ss.map lst) = ([], 2) := by rw [pWordsR, List.length_map, if_neg h0, if_pos h12]
        rw [e]
        exact words_many _ _ cap w (by omega)
      · by_cases h60 : ∃ s ∈ ss, 60 < s.size
        · have e : pWordsR (ss.map lst) = ([], 2) := by
            rw [pWordsR, List.length_map, if_neg h0, if_neg h12, if_pos]
            obtain ⟨s, h1, h2⟩ := h60
            rw [List.any_eq_true]
            exact ⟨lst s, List.mem_map.2 ⟨s, h1, rfl⟩, decide_eq_true (by rw [lst, size_list]; exact h2)⟩
          rw [e]
          refine words_walk b off cap ss w hA (by omega) (by omega) hs ⟨#[]⟩ 2 ?_
          intro w1 g cap1 hb1 hR
          have hp : pCheck 6 ⟨#[]⟩ 0 (ss.map Rep.ofBytes) = 2 := by
            rw [pCheck, if_pos rfl, if_neg (by simp), if_neg (by rw [List.length_map]; omega), first_bad ss h60]
          have := encode_err ⟨#[]⟩ 6 0 (some ⟨g, 0, none⟩) cap1 (ss.map Rep.ofBytes) w1 (by simp [ByteArray.size, maxLen]) (.inr ⟨g, 0, rfl, hR⟩) (by rw [hp]; decide)
          rw [hp, List.length_map] at this
          exact this
        · have h6 : ∀ s ∈ ss, s.size ≤ 60 := fun s hsm => by
            apply Decidable.byContradiction
            intro hc
            exact h60 ⟨s, hsm, by omega⟩
          have e : pWordsR (ss.map lst) = (pWordsB (ss.map lst), 0) := by
            rw [pWordsR, List.length_map, if_neg h0, if_neg h12, if_neg]
            rw [List.any_eq_true]
            rintro ⟨x, hx, h2⟩
            obtain ⟨s, h1, rfl⟩ := List.mem_map.1 hx
            have := h6 s h1
            have h3 : 60 < (lst s).length := of_decide_eq_true h2
            rw [lst, size_list] at h3
            omega
          rw [e]
          refine words_walk b off cap ss w hA (by omega) (by omega) hs ⟨(pWordsB (ss.map lst)).toArray⟩ 0 ?_
          intro w1 g cap1 hb1 hR
          have hI : ItoaOk 0 w (ss.map Rep.ofBytes).length ∧ (Lib.itoa (ss.map Rep.ofBytes).length).length ≤ 20 := by
            rw [List.length_map]
            exact ⟨itoaOk_small _ _ _ (by omega), itoa_small_len _ (by omega)⟩
          have := encode_list 0 w ⟨#[]⟩ g 0 cap1 (ss.map Rep.ofBytes) w1 (hb1.mono (Nat.zero_le _)) (Nat.zero_le _) empty_list hR (by rw [List.length_map]; omega) (first_ok ss h6) hI (by
            intro r hr
            obtain ⟨s, h1, rfl⟩ := List.mem_map.1 hr
            have := h6 s h1
            refine ⟨fun hk => ?_, fun _ => ⟨itoaOk_small _ _ _ (by show s.size < 100; omega), itoa_small_len _ (by show s.size < 100; omega)⟩, this⟩
            rcases hk with hk | hk <;> exact absurd hk (by show ¬ (4 : Int) = _; decide))
          rw [List.length_map, enc_words] at this
          exact this
end Go.Proofs.YtmaancidkpfopaaGreatDoor

/- WALKS: a command by its name. -/
namespace Go.Proofs.YtmaancidkpfopaaGreatDoor
open Go.RowKit

set_option maxRecDepth 100000 in
set_option maxHeartbeats 2000000 in
theorem named_any (nm n o a : ByteArray) (fu : Fn) (xs ys : Array Value) (b : Nat) (w : World) (h : w.cell? ⟨b, 0, none⟩ = some (.string nm)) :
    Calls Tryz.prog 23 #[.agg #[.string n, .string o, .string a, .func fu xs ys], .pointer (some ⟨b, 0, none⟩)] w fun e w' => e = .returned (.bool (decide (n = nm))) ∧ Below w.heap.size w w' := by
  have hb := World.block_lt_of_cell? _ _ h
  have e : decide (n = nm) = (n.toList == nm.toList) := by
    rw [Bool.eq_iff_iff]
    simp [ByteArray.toList_eq, ByteArray.ext_iff]
  rw [e]
  have h1 : ∀ ob, (w.alloc ob).cell? ⟨b, 0, none⟩ = some (.string nm) := fun ob => (World.cell?_alloc_lt _ _ _ hb).trans h
  go_enter Tryz.func23, Tryz.ntmps23
  go_wp2_with fail
  go_ret
  exact ⟨rfl, (Below.refl _ _).alloc (Nat.le_refl _) _⟩
theorem DedAt.func {B : Nat} {w : World} {v : Value} {d : Ded} (h : DedAt B w v d) : ∃ fu xs ys, v = .func fu xs ys := by
  cases d with
  | one f => exact ⟨_, _, _, h⟩
  | cap g f => obtain ⟨b, _, h1, _⟩ := h; exact ⟨_, _, _, h1⟩
  | two g f l => obtain ⟨b, c, _, _, h1, _⟩ := h; exact ⟨_, _, _, h1⟩
/-- where a name is first -/
def idxC (nm : ByteArray) : List Cmd → Int → Int
  | [], _ => -1
  | c :: r, k => if c.name = nm then k else idxC nm r (k + 1)
theorem idxC_at {nm : ByteArray} : ∀ {l : List Cmd} {k : Nat} {s : Int}, (h : k < l.length) → (∀ j (hj : j < k), (l[j]'(by omega)).name ≠ nm) → l[k].name = nm → idxC nm l s = s + k
  | c :: r, 0, s, _, _, he => by
    have he' : c.name = nm := he
    rw [idxC, if_pos he']
    simp
  | c :: r, k + 1, s, h, hn, he => by
    rw [idxC, if_neg (show ¬ c.name = nm from hn 0 (by omega)), idxC_at (l := r) (k := k) (by simpa using h) (fun j hj => hn (j + 1) (by omega)) he]
    omega
theorem idxC_none {nm : ByteArray} : ∀ {l : List Cmd} {s : Int}, (∀ j (hj : j < l.length), l[j].name ≠ nm) → idxC nm l s = -1
  | [], _, _ => rfl
  | c :: r, s, h => by
    rw [idxC, if_neg (show ¬ c.name = nm from h 0 (by simp)), idxC_none (l := r) (fun j hj => h (j + 1) (by simpa using hj))]
set_option maxRecDepth 100000 in
set_option maxHeartbeats 4000000 in
theorem indexC_any (nm : ByteArray) (b : Nat) (a : Option Addr) (c : Nat) (l : List Cmd) (w : World) (h : w.cell? ⟨b, 0, none⟩ = some (.string nm)) {B : Nat} (hl : CmdsAt B w a l) (hn : l.length ≤ 1000) :
    Calls Tryz.prog 22 #[.slice a l.length c, .func (.func 23) #[] #[.pointer (some ⟨b, 0, none⟩)]] w fun e w' => e = .returned (.int .i64 (idxC nm l 0)) ∧ Below w.heap.size w w' := by
  obtain ⟨g, rfl, hcs⟩ := hl
  have HCS := hide hcs
  have HNM := hide (fun W (hW : Below w.heap.size w W) n o a fu xs ys => named_any nm n o a fu xs ys b W ((hW.cell (p := ⟨b, 0, none⟩) (World.block_lt_of_cell? _ _ h)).trans h))
  clear hcs h
  go_enter Tryz.func22, Tryz.ntmps22
  go_wp2_with fail
  go_loopw [8] (fun iv wr => ∃ k : Nat, k ≤ l.length ∧ iv = .int .i64 k ∧ Hid (Below w.heap.size w wr) ∧ Hid (∀ j (hj : j < k) (h2 : j < l.length), l[j].name ≠ nm)) (fun iv _ => l.length - (intOf iv).toNat)
  case atStart => exact ⟨0, Nat.zero_le _, rfl, Below.refl _ _, fun j hj => absurd hj (by omega)⟩
  case round =>
    obtain ⟨k, hk, rfl, HB, HJ⟩ := hrel
    obtain ⟨wo, hwo⟩ : ∃ wo, wo = wr := ⟨wr, rfl⟩
    subst hwo
    by_cases hlt : k < l.length
    · have hlt' : ((k : Nat) : Int) < ((l.length : Nat) : Int) := by omega
      obtain ⟨v, ⟨d0, d1, d2, d3⟩, hd⟩ := HCS.out k hlt
      obtain ⟨fu, xs, ys, rfl⟩ := hd.func
      have hk : ∀ o u, w.cell? ⟨g, o, none⟩ = some u → wo.cell? ⟨g, o, none⟩ = some u := fun o u hu => (HB.out.cell (p := ⟨g, o, none⟩) (World.block_lt_of_cell? _ _ hu)).trans hu
      have d0 := hk _ _ d0
      have d1 := hk _ _ d1
      have d2 := hk _ _ d2
      have d3 := hk _ _ d3
      have HE := hide (fun (hn : l[k].name = nm) => idxC_at (s := 0) hlt (fun j hj => HJ.out j hj (by omega)) hn)
      have HJ2 := hide (fun (hn : l[k].name ≠ nm) => (fun j (hj : j < k + 1) (h2 : j < l.length) => if e : j = k then by subst e; exact hn else HJ.out j (by omega) h2 : ∀ j (hj : j < k + 1) (h2 : j < l.length), l[j].name ≠ nm))
      clear hk hd
      generalize l[k].name = n at *
      generalize l[k].once = o at *
      generalize l[k].again = ag at *
      go_wp2_with fail
      refine (HNM.out wo HB.out n o ag fu xs ys).mono ?_
      rintro e w1 ⟨rfl, hb1⟩
      have HB1 : Hid (Below w.heap.size w w1) := HB.out.trans (hb1.mono HB.out.size)
      clear hb1 d0 d1 d2 d3
      by_cases hn : n = nm
      · have HR : Hid (idxC nm l 0 = k) := by rw [Hid, HE.out hn]; simp
        rw [decide_eq_true hn]
        clear HE HJ2
        go_wp2_with fail
        go_ret
        exact ⟨by rw [HR.out]; rfl, HB1.out⟩
      · have HJ3 := hide (HJ2.out hn)
        rw [decide_eq_false hn]
        clear HE HJ2
        go_wp2_with fail
        go_roundw
        case rel => exact ⟨k + 1, by omega, by go_num, HB1, HJ3.out⟩
        case measure => simp [intOf]; omega
    · have hge : ¬ ((k : Nat) : Int) < ((l.length : Nat) : Int) := by omega
      have HR : Hid (idxC nm l 0 = -1) := idxC_none (fun j hj => HJ.out j (by omega) hj)
      go_wp2_with fail
      go_ret
      exact ⟨by rw [HR.out]; rfl, HB.out⟩
/-- what is wrong with words, whatever the command -/
def wordsE (l : List ByteArray) : Int := ((pWordsR (l.map lst)).2 : Nat)
theorem wordsE_ok {l : List ByteArray} (h : wordsE l = 0) : l ≠ [] ∧ l.length ≤ 12 ∧ ∀ t ∈ l, t.size ≤ 60 := by
  unfold wordsE pWordsR at h
  rw [List.length_map] at h
  split at h
  · simp at h
  · rename_i h0
    split at h
    · simp at h
    · rename_i h12
      split at h
      · simp at h
      · rename_i h60
        refine ⟨fun e => h0 (by rw [e]; rfl), by omega, fun t ht => ?_⟩
        have h1 : ¬ ((l.map lst).any fun x => decide (60 < x.length)) = true := h60
        rw [List.any_eq_true] at h1
        have h2 : ¬ (decide (60 < (lst t).length) = true) := fun h3 => h1 ⟨lst t, List.mem_map_of_mem ht, h3⟩
        have h4 : (lst t).length = t.size := Array.length_toList
        rw [h4] at h2
        simpa using h2
/-- four cells of a block stored anew -/
theorem put4E {w : World} {b T : Nat} {x0 x1 x2 x3 : Value} (h : w.heap[b]? = some (.cells #[x0, x1, x2, x3] T (0, 0))) (y0 y1 y2 y3 : Value) :
    ((((w.setCell ⟨b, 0, none⟩ y0).setCell ⟨b, 1, none⟩ y1).setCell ⟨b, 2, none⟩ y2).setCell ⟨b, 3, none⟩ y3).heap[b]? = some (.cells #[y0, y1, y2, y3] T (0, 0)) ∧ Kept (one b) w ((((w.setCell ⟨b, 0, none⟩ y0).setCell ⟨b, 1, none⟩ y1).setCell ⟨b, 2, none⟩ y2).setCell ⟨b, 3, none⟩ y3) := by
  have hs : ∀ (v : World) (cs : Array Value) (o : Nat) (u : Value), v.heap[b]? = some (.cells cs T (0, 0)) → (v.setCell ⟨b, o, none⟩ u).heap[b]? = some (.cells (cs.setIfInBounds o u) T (0, 0)) := fun v cs o u hv => by simp [World.setCell, Array.getElem?_modify, hv]
  exact ⟨by rw [hs _ _ _ _ (hs _ _ _ _ (hs _ _ _ _ (hs _ _ _ _ h)))]; rfl, ((((Kept.refl (one b) w).set1 0 _).set1 1 _).set1 2 _).set1 3 _⟩
theorem texts_strs {w : World} {a : Option Addr} {l : List ByteArray} (h : TextsAt w a l) : Strs w a l := by
  rcases h with h | ⟨g, o, h1, h2⟩
  · exact .inl h
  · exact .inr ⟨g, o, h1, ⟨h2⟩⟩
set_option maxRecDepth 100000 in
set_option maxHeartbeats 8000000 in
theorem find_bad (al : Option Addr) (cl : Nat) (l : List ByteArray) (w : World) (hl : TextsAt w al l) (hlz : ∀ t ∈ l, t.size ≤ maxLen) (h0 : wordsE l ≠ 0) :
    Calls Tryz.prog 12 #[.slice al l.length cl] w fun e w' => e = .returned (.tuple #[.agg #[.string ⟨#[]⟩, .string ⟨#[]⟩, .string ⟨#[]⟩, .nilFunc], .int .i64 (wordsE l)]) ∧ Below w.heap.size w w' := by
  have HW : Hid (∀ W, Below w.heap.size w W → Calls Tryz.prog 19 #[.slice al l.length cl] W fun e w' => (∃ s, e = .returned (.tuple #[.string s, .int .i64 (wordsE l)])) ∧ Below W.heap.size W w') := fun W hW => (words_any al cl l W (texts_strs (hl.below hW)) hlz).mono fun _ _ ⟨he, hb⟩ => ⟨⟨_, he⟩, hb⟩
  generalize wordsE l = E at *
  have hE : (E == 0) = false := by rw [beq_eq_false_iff_ne]; exact h0
  clear hl
  go_enter Tryz.func12, Tryz.ntmps12
  go_wp2_with fail
  refine (HW.out _ ((Below.refl _ w).alloc (Nat.le_refl _) _)).mono ?_
  rintro e w1 ⟨⟨s, rfl⟩, hb1⟩
  have B1 : Below w.heap.size w w1 := ((Below.refl _ w).alloc (Nat.le_refl _) _).trans (hb1.mono (by simp))
  have hh : w1.heap[w.heap.size]? = some (.cells #[.string ⟨#[]⟩, .string ⟨#[]⟩, .string ⟨#[]⟩, .nilFunc] 48 (0, 0)) := by
    refine (hb1.block w.heap.size (by simp)).trans ?_
    show (w.heap.push _)[w.heap.size]? = _
    simp
  have c0 : w1.cell? ⟨w.heap.size, 0, none⟩ = some (.string ⟨#[]⟩) := by simp [World.cell?, hh]
  have c1 : w1.cell? ⟨w.heap.size, 1, none⟩ = some (.string ⟨#[]⟩) := by simp [World.cell?, hh]
  have c2 : w1.cell? ⟨w.heap.size, 2, none⟩ = some (.string ⟨#[]⟩) := by simp [World.cell?, hh]
  have c3 : w1.cell? ⟨w.heap.size, 3, none⟩ = some .nilFunc := by simp [World.cell?, hh]
  have f0 : w1.frozen? ⟨w.heap.size, 0, none⟩ = false := by simp [World.frozen?, hh]
  have f1 : w1.frozen? ⟨w.heap.size, 1, none⟩ = false := by simp [World.frozen?, hh]
  have f2 : w1.frozen? ⟨w.heap.size, 2, none⟩ = false := by simp [World.frozen?, hh]
  have f3 : w1.frozen? ⟨w.heap.size, 3, none⟩ = false := by simp [World.frozen?, hh]
  have HP := hide (put4E hh (.string ⟨#[]⟩) (.string ⟨#[]⟩) (.string ⟨#[]⟩) .nilFunc)
  have hz : w.heap.size < w1.heap.size := (Array.getElem?_eq_some_iff.1 hh).1
  clear hb1 hh
  go_wp2_with fail
  obtain ⟨hH, hK⟩ := HP.out
  have hB := B1.trans (hK.below (B := w.heap.size) (Nat.le_of_lt hz) (fun k hk => by simp only [one] at hk; omega))
  generalize ((((w1.setCell ⟨w.heap.size, 0, none⟩ (.string ⟨#[]⟩)).setCell ⟨w.heap.size, 1, none⟩ (.string ⟨#[]⟩)).setCell ⟨w.heap.size, 2, none⟩ (.string ⟨#[]⟩)).setCell ⟨w.heap.size, 3, none⟩ .nilFunc) = W2 at *
  refine bodyPost_ret (v := .tuple #[.agg #[.string ⟨#[]⟩, .string ⟨#[]⟩, .string ⟨#[]⟩, .nilFunc], .int .i64 E]) (by simp [results, Tryz.results12, go_sem, World.cell?, hH]) rfl ⟨rfl, hB⟩
end Go.Proofs.YtmaancidkpfopaaGreatDoor

