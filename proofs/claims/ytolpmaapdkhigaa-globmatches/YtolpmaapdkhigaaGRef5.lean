/- WALK of the reference's match: the places of the parts. -/
import Derived.Test.YtolpmaapdkhigaaGRef4
import Derived.Deep.OwnRows
import Derived.Deep.AppendLies
import Derived.Handy
namespace Go.Proofs.Ytolpmaapdkhigaa
open Go.RowKit

/-- the parts of a pattern, each with what is left from its beginning on -/
inductive Steps : List UInt8 → List (List UInt8 × Part) → Prop
  | nil : Steps [] []
  | cons {l q : List UInt8} {p : Part} {rest : List (List UInt8 × Part)} : pPart l = .ok (p, q) → Steps q rest → Steps l ((l, p) :: rest)
theorem steps_of : ∀ (f : Nat) (l : List UInt8) (ps : List Part), pPartsF f l = .ok ps → ∃ st, Steps l st ∧ st.map Prod.snd = ps ∧ st.length ≤ l.length
  | f, [], ps, h => by rw [pPartsF] at h; simp at h; subst h; exact ⟨[], .nil, rfl, by simp⟩
  | 0, c :: l, ps, h => by rw [pPartsF] at h; simp at h
  | f + 1, c :: l, ps, h => by
    rw [pPartsF] at h
    cases hp : pPart (c :: l) with
    | error e => rw [hp] at h; simp at h
    | ok y =>
      obtain ⟨p, q⟩ := y
      rw [hp] at h
      simp only at h
      cases hr : pPartsF f q with
      | error e => rw [hr] at h; simp at h
      | ok ps' =>
        rw [hr] at h
        simp at h
        subst h
        obtain ⟨st, s1, s2, s3⟩ := steps_of f q ps' hr
        have := (pPart_suffix hp).2
        exact ⟨(c :: l, p) :: st, .cons hp s1, by simp [s2], by simp at this ⊢; omega⟩
theorem Steps.inv {l : List UInt8} {x : List UInt8 × Part} {rest : List (List UInt8 × Part)} (h : Steps l (x :: rest)) : x.1 = l ∧ ∃ c r q, l = c :: r ∧ pPart l = .ok (x.2, q) ∧ Steps q rest := by
  cases h with
  | cons hp hs =>
    refine ⟨rfl, ?_⟩
    cases l with
    | nil => simp [pPart] at hp
    | cons c r => exact ⟨c, r, _, rfl, hp, hs⟩
theorem Steps.none {l : List UInt8} (h : Steps l []) : l = [] := by
  cases h
  rfl
theorem Steps.at {l : List UInt8} {d t : List (List UInt8 × Part)} (h : Steps l (d ++ t)) : ∃ l', Steps l' t ∧ l' <:+ l := by
  induction d generalizing l with
  | nil => exact ⟨l, h, List.suffix_refl _⟩
  | cons x d ih =>
    obtain ⟨_, c, r, q, rfl, hp, hs⟩ := h.inv
    obtain ⟨l', h1, h2⟩ := ih hs
    exact ⟨l', h1, h2.trans (pPart_suffix hp).1⟩
theorem infoInt : (Try.prog.info? 3).map (fun i => (i.zero, i.size, i.bytes)) = some (some (.int .i64 0), 1, 8) := by kernel_rfl
theorem infoBool : (Try.prog.info? 4).map (fun i => (i.zero, i.size, i.bytes)) = some (some (.bool false), 1, 1) := by kernel_rfl
def placeRow (s : ByteArray) (st : List (List UInt8 × Part)) : List Value := st.map fun x => .int .i64 ((s.size - x.1.length : Nat) : Int)
/-- one step back: what a part and all behind it match -/
theorem mat_back_star {P : List Part} {k : Nat} {s : List UInt8} (hk : k < P.length) (hm : P[k].many = true) (i : Nat) (hi : i ≤ s.length) :
    mat (P.drop k) (s.drop i) = (mat (P.drop (k + 1)) (s.drop i) || (decide (i < s.length) && mat (P.drop k) (s.drop (i + 1)))) := by
  rw [mat_star hk hm]
  by_cases h : i < s.length
  · rw [starMat_drop _ _ _ h, mat_star hk hm]
    simp [h]
  · have : s.drop i = [] := List.drop_eq_nil_of_le (by omega)
    rw [this, starMat]
    simp [h]
theorem mat_back_one {P : List Part} {k : Nat} {s : List UInt8} (hk : k < P.length) (hm : P[k].many = false) (i : Nat) (hi : i < s.length) : mat (P.drop k) (s.drop i) = (P[k].may s[i] && mat (P.drop (k + 1)) (s.drop (i + 1))) := mat_one hk hm hi
theorem mat_back_end {P : List Part} {k : Nat} {s : List UInt8} (hk : k < P.length) (hm : P[k].many = false) : mat (P.drop k) (s.drop s.length) = false := by
  rw [List.drop_length, mat_nil, drop_cons P k hk, List.all_cons, hm]
  rfl

theorem nowStep {f : Nat → Bool} {i : Nat} {b : Bool} (h : f i = b) (j : Nat) : (if j = i then Value.bool b else .bool (if i + 1 ≤ j then f j else false)) = .bool (if i ≤ j then f j else false) := by
  by_cases hj : j = i
  · subst hj
    rw [if_pos rfl, if_pos (Nat.le_refl _), h]
  · rw [if_neg hj]
    by_cases hij : i ≤ j
    · rw [if_pos hij, if_pos (by omega)]
    · rw [if_neg hij, if_neg (by omega)]
theorem part_many {c : UInt8} {l q : List UInt8} {p : Part} (h : pPart (c :: l) = .ok (p, q)) : p.many = (c == 42) := by
  rw [pPart] at h
  split at h
  · rename_i e; simp at h; rw [← h.1, e]; rfl
  · rename_i e
    have hc : (c == 42) = false := by simpa using e
    rw [hc]
    split at h
    · simp at h; rw [← h.1]; rfl
    · split at h
      · unfold pBracket at h
        split at h
        · simp at h
        · simp at h
        · simp at h; rw [← h.1]; rfl
      · split at h
        · cases l with
          | nil => simp [pEsc] at h
          | cons d r => simp [pEsc] at h; rw [← h.1]; rfl
        · simp at h; rw [← h.1]; rfl
theorem part_star {c : UInt8} {l q : List UInt8} {p : Part} (h : pPart (c :: l) = .ok (p, q)) : ((partText (c :: l) q).toList == [42]) = (c == 42) := by
  have hq := (pPart_suffix h).2
  rw [ByteArray.toList_eq, partText, toList_mk]
  obtain ⟨m, hm⟩ : ∃ m, (c :: l).length - q.length = m + 1 := ⟨(c :: l).length - q.length - 1, by omega⟩
  rw [hm, List.take_succ_cons]
  by_cases hc : c = 42
  · subst hc
    rw [show pPart (42 :: l) = .ok (.star, l) from rfl] at h
    simp at h
    rw [← h.2] at hm
    simp at hm
    subst hm
    rfl
  · have h1 : (c == 42) = false := by simpa using hc
    rw [h1]
    show (c == 42 && _) = false
    rw [h1]
    rfl

set_option maxRecDepth 100000 in
set_option maxHeartbeats 2000000 in
theorem isMatch_any (p s : ByteArray) (st : List (List UInt8 × Part)) (w : World) (hp : p.size ≤ 60) (hs : s.size ≤ 60) (h : Steps p.data.toList st) (hn : st.length ≤ 60) :
    Calls Try.prog 9 #[.string p, .string s] w fun e w' => e = .returned (.bool (mat (st.map Prod.snd) s.data.toList)) ∧ Below w.heap.size w w' := by
  obtain ⟨i0, hi, hz0, hz1, hz2⟩ := info_parts infoInt
  have hmk : ∀ W : World, (Instr.makeSlice 36 (.int .i64 (((s.size : Nat) : Int) + 1)) (.int .i64 (((s.size : Nat) : Int) + 1))).run Try.prog W = .ok (.slice (some ⟨W.heap.size, 0, none⟩) (s.size + 1) (s.size + 1)) (W.alloc (.cells (madeCells #[.bool false] (s.size + 1)) 4)) := fun W => by
    have := run_make_row' (P := Try.prog) 36 4 (.bool false) 1 Try.underlying36 infoBool rfl .i64 .i64 (s.size + 1) (by omega) (by omega) W
    rw [show ((s.size + 1 : Nat) : Int) = ((s.size : Nat) : Int) + 1 by omega] at this
    exact this
  have HMK := hide hmk
  have HST := hide h
  clear h hmk
  go_enter Try.func9, Try.ntmps9
  go_wp2_with fail
  go_loopw [5, 6] (fun V va wr => ∃ (i : Nat) (l : List UInt8) (d t : List (List UInt8 × Part)), va = .int .i64 i ∧ Hid (Pos p i l) ∧ st.length = d.length + t.length ∧ Hid (st = d ++ t) ∧ Hid (Steps l t) ∧ wr.ownsRow w.heap.size 3 1 V d.length (placeRow p d) ∧ Below w.heap.size w wr) (fun _ va _ => p.size + 1 - (intOf va).toNat)
  case atStart => exact ⟨0, p.data.toList, [], st, rfl, ⟨by simp, Nat.zero_le _⟩, by simp, rfl, HST, World.ownsRow_nil _ _ _ _, Below.refl _ _⟩
  case round =>
    obtain ⟨i, l, d, t, rfl, HP, hlen, HD, HS, hown, hb⟩ := hrel
    obtain ⟨ao, cp, rfl⟩ := rowSlice2 hown
    have hpl := HP.out.len
    have hzr := hb.size
    cases t with
    | cons x t =>
      obtain ⟨hx1, c, r, q, rfl, hpp, hst⟩ := HS.out.inv
      have hlt : i < p.size := by simp at hpl; omega
      have hq := (pPart_suffix hpp).2
      have HPE : Hid (∀ W, Calls Try.prog 13 #[.string p, .int .i64 (i : Int)] W fun e w' => e = .returned (.int .i64 ((p.size - q.length : Nat) : Int)) ∧ ∃ n, w' = W.drewN n) := fun W => partEnd_any p i c r q x.2 W HP.out hp hpp
      have HP2 := hide (HP.out.suffix (pPart_suffix hpp).1)
      have HST2 := hide hst
      have HD2 : Hid (st = (d ++ [x]) ++ t) := by rw [Hid, HD.out]; simp
      have HX : Hid (Value.int .i64 (i : Int) = .int .i64 ((p.size - x.1.length : Nat) : Int)) := by rw [Hid, hx1]; simp at hpl ⊢; omega
      have hmeas : p.size + 1 - (p.size - q.length) < p.size + 1 - i := by simp at hq hpl; omega
      clear HP HS HD hst hpp hx1
      generalize hE : p.size - q.length = E at *
      go_wp2_with (at_builtin; refine wpList_append_lies _ rfl _ _ 34 rfl w.heap.size 3 i0 (.int .i64 0) 1 8 Try.underlying34 hi hz0 hz1 hz2 rfl (by decide) (.slice ao d.length cp) d.length (placeRow p d) rfl (hown.alloc _) ⟨wr.heap.size, 0, none⟩ 1 1 [.int .i64 (i : Int)] rfl rfl ?c1 ?c2 (by decide) ?c3 ?c4 ?c5 (wr.heap.size + 1) ?c6 ?_)
      case c1 =>
        intro j u hj
        match j, hj with
        | 0, hj => simp at hj; subst hj; simp [Addr.add, go_sem]
        | _ + 1, hj => simp at hj
      case c2 => intro u hu; simp at hu; subst hu; rfl
      case c3 => unfold maxLen; simp at hlen; omega
      case c4 => simp at hlen; omega
      case c5 => simp; omega
      case c6 => simp
      intro g cap w4 hown4 hgrow _ _
      have hk4 : Kept (fun j => w.heap.size ≤ j) wr w4 := (((Kept.refl _ wr).alloc _).grown hgrow (fun j hj => .inl (hown.lt j hj).1))
      have hb4 : Below w.heap.size w w4 := hb.trans (hk4.below (by omega) (fun j e => e))
      have hrow : placeRow p d ++ [.int .i64 (i : Int)] = placeRow p (d ++ [x]) := by rw [HX.out]; simp [placeRow]
      rw [hrow] at hown4
      clear hk4 hgrow hown hb hrow
      go_wp2_with fail
      refine (HPE.out _).mono ?_
      rintro e w5 ⟨rfl, nn, rfl⟩
      go_wp2_with fail
      go_roundw
      case rel => exact ⟨E, q, d ++ [x], t, rfl, HP2, by simp at hlen ⊢; omega, HD2, HST2, by simpa using ((Kept.refl (fun _ => False) w4).drewN nn).owns hown4 (fun _ _ e => e), ⟨hb4.os, hb4.tape, hb4.output, hb4.size, hb4.block⟩⟩
      case measure => simp only [intOf, Int.toNat_natCast]; exact hmeas
    | nil =>
      have hd : Hid (st = d) := by have := HD.out; rw [List.append_nil] at this; exact this
      have hl0 : l = [] := HS.out.none
      subst hl0
      simp only [List.length_nil, Nat.add_zero] at hpl hlen
      have hge : ¬ ((i : Nat) : Int) < ((p.size : Nat) : Int) := by omega
      have hmk := HMK.out
      have hr0 := World.rowIs_made wr (.bool false) (s.size + 1) 4
      have c0 := hr0.cell (i := s.size) (by omega)
      have f0 := hr0.frozen s.size
      have HR1 : Hid (((wr.alloc (.cells (madeCells #[.bool false] (s.size + 1)) 4)).setCell ⟨wr.heap.size, s.size, none⟩ (.bool true)).rowIs wr.heap.size 4 (s.size + 1) (fun j => .bool (mat ((st.map Prod.snd).drop st.length) (s.data.toList.drop j)))) := (hr0.set s.size (.bool true)).congr fun j hj => by
        rw [List.drop_eq_nil_of_le (by simp), mat]
        by_cases hjs : j = s.size
        · subst hjs
          simp
        · rw [if_neg hjs]
          have : (s.data.toList.drop j).isEmpty = false := by
            rw [List.isEmpty_eq_false_iff]
            intro e
            have := congrArg List.length e
            rw [List.length_drop, size_list] at this
            simp at this
            omega
          rw [this]
      have hown1 : ((wr.alloc (.cells (madeCells #[.bool false] (s.size + 1)) 4)).setCell ⟨wr.heap.size, s.size, none⟩ (.bool true)).ownsRow w.heap.size 3 1 (.slice ao d.length cp) d.length (placeRow p d) := (((Kept.refl (fun _ => False) wr).alloc _).setCell (p := ⟨wr.heap.size, s.size, none⟩) (.inr (by simp)) _).owns hown (fun _ _ e => e)
      have hb1 : Below w.heap.size w ((wr.alloc (.cells (madeCells #[.bool false] (s.size + 1)) 4)).setCell ⟨wr.heap.size, s.size, none⟩ (.bool true)) := (hb.alloc (by omega) _).setCell (p := ⟨wr.heap.size, s.size, none⟩) (by simp only; omega) _
      rw [← hd.out] at hown1 hown
      have hEq : (wr.alloc (.cells (madeCells #[.bool false] (s.size + 1)) 4)).setCell ⟨wr.heap.size, s.size, none⟩ (.bool true) = wr.alloc (.cells ((madeCells #[.bool false] (s.size + 1)).setIfInBounds s.size (.bool true)) 4) := by simp [go_sem]
      rw [hEq] at HR1 hown1 hb1
      have HO1 := hide hown1
      have hwr : wrap64 (((st.length : Nat) : Int) - 1) = ((st.length : Nat) : Int) - 1 := by unfold wrap64; omega
      rw [hd.out] at hwr
      clear HS HP HD hr0 hown hb hlen hEq hown1
      go_wp2_with fail
      clear c0 f0 hwr
      rw [← hd.out]
      generalize hW2 : wr.alloc (.cells ((madeCells #[.bool false] (s.size + 1)).setIfInBounds s.size (.bool true)) 4) = w2 at *
      go_loopw [7, 8] (fun vr vk wk => ∃ (g k : Nat), k ≤ st.length ∧ vk = .int .i64 ((k : Int) - 1) ∧ vr = .slice (some ⟨g, 0, none⟩) (s.size + 1) (s.size + 1) ∧ Hid (wk.rowIs g 4 (s.size + 1) (fun j => .bool (mat ((st.map Prod.snd).drop k) (s.data.toList.drop j)))) ∧ Hid (wk.ownsRow w.heap.size 3 1 (.slice ao st.length cp) st.length (placeRow p st)) ∧ Below w.heap.size w wk) (fun _ vk _ => (intOf vk + 1).toNat)
      case atStart => exact ⟨wr.heap.size, st.length, Nat.le_refl _, rfl, rfl, HR1, HO1, hb1⟩
      case round =>
        clear HR1 HO1 hb1 hW2
        obtain ⟨g, k, hk, rfl, rfl, HR, HO, hb⟩ := hrel
        cases k with
        | zero =>
          have c0 := HR.out.cell (i := 0) (by omega)
          rw [List.drop_zero, List.drop_zero] at c0
          go_wp2_with fail
          go_ret
          exact ⟨rfl, hb⟩
        | succ k =>
          have hkl : k < st.length := by omega
          have hks : k < (st.map Prod.snd).length := by simpa using hkl
          obtain ⟨x, hx⟩ : ∃ x, x = st[k] := ⟨_, rfl⟩
          have hps : (st.map Prod.snd)[k] = x.2 := by simp [hx]
          have hsp : st = st.take k ++ x :: st.drop (k + 1) := by rw [hx, ← List.drop_eq_getElem_cons hkl, List.take_append_drop]
          have hS := HST.out
          rw [hsp] at hS
          obtain ⟨l', hS2, hsuf⟩ := hS.at
          obtain ⟨hx1, c, r, q, hlc, hpp, _⟩ := hS2.inv
          have hpos : Pos p (p.size - l'.length) l' := Pos.suffix (i := 0) ⟨by simp, Nat.zero_le _⟩ hsuf
          subst hlc
          have hposl := hpos.len
          have hq := (pPart_suffix hpp).2
          have hqs := (pPart_suffix hpp).1
          have HPE : Hid (∀ W, Calls Try.prog 13 #[.string p, .int .i64 ((p.size - (c :: r).length : Nat) : Int)] W fun e w' => e = .returned (.int .i64 ((p.size - q.length : Nat) : Int)) ∧ ∃ n, w' = W.drewN n) := fun W => partEnd_any p _ c r q x.2 W hpos hp hpp
          have hsl : ∀ W : World, (Instr.slice 9 (.string p) (some (.int .i64 ((p.size - (c :: r).length : Nat) : Int))) (some (.int .i64 ((p.size - q.length : Nat) : Int))) none).run Try.prog W = .ok (.string (partText (c :: r) q)) W := fun W => by
            refine slice_mid p _ _ (by omega) (by omega) W _ ?_
            rw [hpos.eq, show p.size - q.length - (p.size - (c :: r).length) = (c :: r).length - q.length by simp at hposl hq ⊢; omega]
          have HPM : Hid (c ≠ 42 → ∀ (b : UInt8) W, Calls Try.prog 14 #[.string (partText (c :: r) q), .int .u8 b.toNat] W fun e w' => e = .returned (.bool (x.2.may b)) ∧ ∃ n, w' = W.drewN n) := fun h42 b W => partMay_any b c r q x.2 W (by simp at hposl; omega) hpp h42
          obtain ⟨gb, hgb, hcell⟩ : ∃ gb, ao = some ⟨gb, 0, none⟩ ∧ wr.cell? ⟨gb, k, none⟩ = some (.int .i64 ((p.size - (c :: r).length : Nat) : Int)) := by
            rcases HO.out.2 with ⟨_, hz⟩ | ⟨gb, cap', cur, hv, _⟩
            · omega
            · simp at hv
              obtain ⟨rfl, rfl⟩ := hv
              refine ⟨gb, rfl, ?_⟩
              have := HO.out.cellAt k (by simp; omega)
              rw [this, placeRow, List.getElem?_map, List.getElem?_eq_getElem hkl, ← hx, ← hx1]
              rfl
          subst hgb
          have hT42 : ((partText (c :: r) q).toList == [42]) = (c == 42) := part_star hpp
          have HM42 : Hid (x.2.many = (c == 42)) := part_many hpp
          have hTS : Hid True := trivial
          clear hS hS2 hsuf hx1 hpp hpos hq hqs hsp hTS
          generalize partText (c :: r) q = T at *
          generalize hpl1 : p.size - (c :: r).length = P1 at *
          generalize hpl2 : p.size - q.length = P2 at *
          have hsmall : P2 ≤ 60 := by omega
          have hzk := hb.size
          have hidx : ((k + 1 : Nat) : Int) - 1 = ((k : Nat) : Int) := by omega
          rw [hidx]
          go_wp2_with fail
          go_quiet ((go_at_call 13; exact Calls.quiet_of (HPE.out _)))
          go_wp2_with fail
          have hglt := HR.out.lt
          have hgblt := HO.out.lt gb rfl
          obtain ⟨g2, hg2⟩ : ∃ g2, g2 = wr.heap.size := ⟨_, rfl⟩
          rw [← hg2]
          have HN0 : Hid (((wr.drewN nq).alloc (.cells (madeCells #[.bool false] (s.size + 1)) 4)).rowIs g2 4 (s.size + 1) (fun j => .bool (if s.size + 1 ≤ j then mat ((st.map Prod.snd).drop k) (s.data.toList.drop j) else false))) := by
            rw [hg2]
            exact (World.rowIs_made (wr.drewN nq) (.bool false) (s.size + 1) 4).congr fun j hj => by rw [if_neg (by omega)]
          have HG0 : Hid (((wr.drewN nq).alloc (.cells (madeCells #[.bool false] (s.size + 1)) 4)).rowIs g 4 (s.size + 1) (fun j => .bool (mat ((st.map Prod.snd).drop (k + 1)) (s.data.toList.drop j)))) := World.rowIs.alloc (w := wr.drewN nq) HR.out _
          have HO0 : Hid (((wr.drewN nq).alloc (.cells (madeCells #[.bool false] (s.size + 1)) 4)).ownsRow w.heap.size 3 1 (.slice (some ⟨gb, 0, none⟩) st.length cp) st.length (placeRow p st)) := ((((Kept.refl (fun _ => False) wr).drewN nq).alloc _)).owns HO.out (fun _ _ e => e)
          have hb0 : Below w.heap.size w ((wr.drewN nq).alloc (.cells (madeCells #[.bool false] (s.size + 1)) 4)) := Below.alloc (w := wr.drewN nq) ⟨hb.os, hb.tape, hb.output, hb.size, hb.block⟩ (by show w.heap.size ≤ wr.heap.size; omega) _
          have hwg : w.heap.size ≤ g2 := by omega
          go_loopw [11] (fun vi wn => ∃ i : Nat, i ≤ s.size + 1 ∧ vi = .int .i64 ((i : Int) - 1) ∧ Hid (wn.rowIs g2 4 (s.size + 1) (fun j => .bool (if i ≤ j then mat ((st.map Prod.snd).drop k) (s.data.toList.drop j) else false))) ∧ Hid (wn.rowIs g 4 (s.size + 1) (fun j => .bool (mat ((st.map Prod.snd).drop (k + 1)) (s.data.toList.drop j)))) ∧ Hid (wn.ownsRow w.heap.size 3 1 (.slice (some ⟨gb, 0, none⟩) st.length cp) st.length (placeRow p st)) ∧ Below w.heap.size w wn) (fun vi _ => (intOf vi + 1).toNat)
          case atStart => exact ⟨s.size + 1, Nat.le_refl _, by congr 1; omega, HN0, HG0, HO0, hb0⟩
          case round =>
            have hgne : g < g2 := by omega
            have hgbne : gb < g2 := by omega
            clear HN0 HG0 HO0 hb0 HR HO hb hglt hgblt hg2 hcell hzk
            obtain ⟨i, hi', rfl, HN, HG, HO3, hb3⟩ := hrel
            cases i with
            | zero =>
              have HN2 : Hid (wr.rowIs g2 4 (s.size + 1) (fun j => .bool (mat ((st.map Prod.snd).drop k) (s.data.toList.drop j)))) := HN.out.congr fun j hj => by rw [if_pos (Nat.zero_le _)]
              go_wp2_with fail
              go_roundw
              case rel => exact ⟨g2, k, by omega, by go_num, rfl, HN2, HO3, hb3⟩
              case measure => simp only [intOf]; omega
            | succ i =>
              have hidx2 : ((i + 1 : Nat) : Int) - 1 = ((i : Nat) : Int) := by omega
              rw [hidx2]
              have hil : i ≤ s.data.toList.length := by rw [size_list]; omega
              have hA := HG.out.cell (i := i) (by omega)
              by_cases h42 : c = 42
              · have hcb : (c == 42) = true := by simpa using h42
                rw [hcb] at hT42
                have hmm : (st.map Prod.snd)[k].many = true := by rw [hps, HM42.out]; exact hcb
                have hback := mat_back_star hks hmm i hil
                have HBK := hide hback
                clear hback
                cases hAv : mat ((st.map Prod.snd).drop (k + 1)) (s.data.toList.drop i) with
                | true =>
                  rw [hAv] at hA
                  have HV : Hid (mat ((st.map Prod.snd).drop k) (s.data.toList.drop i) = true) := by rw [Hid, HBK.out, hAv]; rfl
                  have HN2 : Hid ((wr.setCell ⟨g2, i, none⟩ (.bool true)).rowIs g2 4 (s.size + 1) (fun j => .bool (if i ≤ j then mat ((st.map Prod.snd).drop k) (s.data.toList.drop j) else false))) := (HN.out.set i (.bool true)).congr (fun j _ => nowStep (f := fun j => mat ((st.map Prod.snd).drop k) (s.data.toList.drop j)) HV.out j)
                  have HG2 : Hid ((wr.setCell ⟨g2, i, none⟩ (.bool true)).rowIs g 4 (s.size + 1) (fun j => .bool (mat ((st.map Prod.snd).drop (k + 1)) (s.data.toList.drop j)))) := HG.out.setOther (by simp only; omega) _
                  have HO2 : Hid ((wr.setCell ⟨g2, i, none⟩ (.bool true)).ownsRow w.heap.size 3 1 (.slice (some ⟨gb, 0, none⟩) st.length cp) st.length (placeRow p st)) := ((Kept.refl (one g2) wr).set1 i _).owns HO3.out (fun j hj e => by simp only [one] at e; simp [Value.ownBlock] at hj; omega)
                  have hb2 : Below w.heap.size w (wr.setCell ⟨g2, i, none⟩ (.bool true)) := hb3.setCell (p := ⟨g2, i, none⟩) (by simp only; omega) _
                  have hc2 := HN.out.cell (i := i) (by omega)
                  have hf2 := HN.out.frozen i
                  clear HN HG HO3 hb3 HV
                  go_wp2_with fail
                  go_roundw
                  case rel => exact ⟨i, by omega, by go_num, HN2, HG2, HO2, hb2⟩
                  case measure => simp only [intOf]; omega
                | false =>
                  rw [hAv] at hA
                  by_cases his : i < s.size
                  · have hB := HN.out.cell (i := i + 1) (by omega)
                    rw [if_pos (Nat.le_refl _)] at hB
                    have HBV : Hid (mat ((st.map Prod.snd).drop k) (s.data.toList.drop i) = mat ((st.map Prod.snd).drop k) (s.data.toList.drop (i + 1))) := by rw [Hid, HBK.out, hAv]; simp [his]
                    generalize hbv : mat ((st.map Prod.snd).drop k) (s.data.toList.drop (i + 1)) = BV at hB HBV
                    have HV : Hid (mat ((st.map Prod.snd).drop k) (s.data.toList.drop i) = BV) := by exact HBV.out
                    have HN2 : Hid ((wr.setCell ⟨g2, i, none⟩ (.bool BV)).rowIs g2 4 (s.size + 1) (fun j => .bool (if i ≤ j then mat ((st.map Prod.snd).drop k) (s.data.toList.drop j) else false))) := (HN.out.set i (.bool BV)).congr (fun j _ => nowStep (f := fun j => mat ((st.map Prod.snd).drop k) (s.data.toList.drop j)) HV.out j)
                    have HG2 : Hid ((wr.setCell ⟨g2, i, none⟩ (.bool BV)).rowIs g 4 (s.size + 1) (fun j => .bool (mat ((st.map Prod.snd).drop (k + 1)) (s.data.toList.drop j)))) := HG.out.setOther (by simp only; omega) _
                    have HO2 : Hid ((wr.setCell ⟨g2, i, none⟩ (.bool BV)).ownsRow w.heap.size 3 1 (.slice (some ⟨gb, 0, none⟩) st.length cp) st.length (placeRow p st)) := ((Kept.refl (one g2) wr).set1 i _).owns HO3.out (fun j hj e => by simp only [one] at e; simp [Value.ownBlock] at hj; omega)
                    have hb2 : Below w.heap.size w (wr.setCell ⟨g2, i, none⟩ (.bool BV)) := hb3.setCell (p := ⟨g2, i, none⟩) (by simp only; omega) _
                    have hc2 := HN.out.cell (i := i) (by omega)
                    have hf2 := HN.out.frozen i
                    clear HN HG HO3 hb3 HV
                    go_wp2_with fail
                    go_roundw
                    case rel => exact ⟨i, by omega, by go_num, HN2, HG2, HO2, hb2⟩
                    case measure => simp only [intOf]; omega
                  · have hise : ¬ ((i : Nat) : Int) < ((s.size : Nat) : Int) := by omega
                    have HV : Hid (mat ((st.map Prod.snd).drop k) (s.data.toList.drop i) = false) := by rw [Hid, HBK.out, hAv]; simp; omega
                    have HN2 : Hid ((wr.setCell ⟨g2, i, none⟩ (.bool false)).rowIs g2 4 (s.size + 1) (fun j => .bool (if i ≤ j then mat ((st.map Prod.snd).drop k) (s.data.toList.drop j) else false))) := (HN.out.set i (.bool false)).congr (fun j _ => nowStep (f := fun j => mat ((st.map Prod.snd).drop k) (s.data.toList.drop j)) HV.out j)
                    have HG2 : Hid ((wr.setCell ⟨g2, i, none⟩ (.bool false)).rowIs g 4 (s.size + 1) (fun j => .bool (mat ((st.map Prod.snd).drop (k + 1)) (s.data.toList.drop j)))) := HG.out.setOther (by simp only; omega) _
                    have HO2 : Hid ((wr.setCell ⟨g2, i, none⟩ (.bool false)).ownsRow w.heap.size 3 1 (.slice (some ⟨gb, 0, none⟩) st.length cp) st.length (placeRow p st)) := ((Kept.refl (one g2) wr).set1 i _).owns HO3.out (fun j hj e => by simp only [one] at e; simp [Value.ownBlock] at hj; omega)
                    have hb2 : Below w.heap.size w (wr.setCell ⟨g2, i, none⟩ (.bool false)) := hb3.setCell (p := ⟨g2, i, none⟩) (by simp only; omega) _
                    have hc2 := HN.out.cell (i := i) (by omega)
                    have hf2 := HN.out.frozen i
                    clear HN HG HO3 hb3 HV
                    go_wp2_with fail
                    go_roundw
                    case rel => exact ⟨i, by omega, by go_num, HN2, HG2, HO2, hb2⟩
                    case measure => simp only [intOf]; omega
              · have hcb : (c == 42) = false := by simpa using h42
                rw [hcb] at hT42
                have hmm : (st.map Prod.snd)[k].many = false := by rw [hps, HM42.out]; exact hcb
                by_cases his : i < s.size
                · have hisl : i < s.data.toList.length := by rw [size_list]; exact his
                  have HBK := hide (mat_back_one hks hmm i hisl)
                  have hsg : s.data.toList[i] = s[i] := rfl
                  rw [hps, hsg] at HBK
                  have HPM2 := hide (fun W => HPM.out h42 s[i] W)
                  generalize hmv : x.2.may s[i] = MV at HBK HPM2
                  clear hA
                  go_wp2_with fail
                  refine (HPM2.out _).mono ?_
                  rintro e w9 ⟨rfl, nn, rfl⟩
                  cases MV with
                  | false =>
                    have HV : Hid (mat ((st.map Prod.snd).drop k) (s.data.toList.drop i) = false) := by rw [Hid, HBK.out]; rfl
                    have HN2 : Hid (((wr.drewN nn).setCell ⟨g2, i, none⟩ (.bool false)).rowIs g2 4 (s.size + 1) (fun j => .bool (if i ≤ j then mat ((st.map Prod.snd).drop k) (s.data.toList.drop j) else false))) := (World.rowIs.set (w := (wr.drewN nn)) HN.out i (.bool false)).congr (fun j _ => nowStep (f := fun j => mat ((st.map Prod.snd).drop k) (s.data.toList.drop j)) HV.out j)
                    have HG2 : Hid (((wr.drewN nn).setCell ⟨g2, i, none⟩ (.bool false)).rowIs g 4 (s.size + 1) (fun j => .bool (mat ((st.map Prod.snd).drop (k + 1)) (s.data.toList.drop j)))) := World.rowIs.setOther (w := (wr.drewN nn)) HG.out (by simp only; omega) _
                    have HO2 : Hid (((wr.drewN nn).setCell ⟨g2, i, none⟩ (.bool false)).ownsRow w.heap.size 3 1 (.slice (some ⟨gb, 0, none⟩) st.length cp) st.length (placeRow p st)) := (((Kept.refl (one g2) wr).drewN nn).set1 i _).owns HO3.out (fun j hj e => by simp only [one] at e; simp [Value.ownBlock] at hj; omega)
                    have hb2 : Below w.heap.size w ((wr.drewN nn).setCell ⟨g2, i, none⟩ (.bool false)) := Below.setCell (w := (wr.drewN nn)) ⟨hb3.os, hb3.tape, hb3.output, hb3.size, hb3.block⟩ (p := ⟨g2, i, none⟩) (by simp only; omega) _
                    have hc2 : ((wr.drewN nn)).cell? ⟨g2, i, none⟩ = _ := HN.out.cell (i := i) (by omega)
                    have hf2 : ((wr.drewN nn)).frozen? ⟨g2, i, none⟩ = false := HN.out.frozen i
                    clear HN HG HO3 hb3 HV
                    go_wp2_with fail
                    go_roundw
                    case rel => exact ⟨i, by omega, by go_num, HN2, HG2, HO2, hb2⟩
                    case measure => simp only [intOf]; omega
                  | true =>
                    have hB : (wr.drewN nn).cell? ⟨g, i + 1, none⟩ = some (.bool (mat ((st.map Prod.snd).drop (k + 1)) (s.data.toList.drop (i + 1)))) := HG.out.cell (i := i + 1) (by omega)
                    have HBV : Hid (mat ((st.map Prod.snd).drop k) (s.data.toList.drop i) = mat ((st.map Prod.snd).drop (k + 1)) (s.data.toList.drop (i + 1))) := by rw [Hid, HBK.out]; rfl
                    generalize hbv : mat ((st.map Prod.snd).drop (k + 1)) (s.data.toList.drop (i + 1)) = BV at hB HBV
                    have HV : Hid (mat ((st.map Prod.snd).drop k) (s.data.toList.drop i) = BV) := by exact HBV.out
                    have HN2 : Hid (((wr.drewN nn).setCell ⟨g2, i, none⟩ (.bool BV)).rowIs g2 4 (s.size + 1) (fun j => .bool (if i ≤ j then mat ((st.map Prod.snd).drop k) (s.data.toList.drop j) else false))) := (World.rowIs.set (w := (wr.drewN nn)) HN.out i (.bool BV)).congr (fun j _ => nowStep (f := fun j => mat ((st.map Prod.snd).drop k) (s.data.toList.drop j)) HV.out j)
                    have HG2 : Hid (((wr.drewN nn).setCell ⟨g2, i, none⟩ (.bool BV)).rowIs g 4 (s.size + 1) (fun j => .bool (mat ((st.map Prod.snd).drop (k + 1)) (s.data.toList.drop j)))) := World.rowIs.setOther (w := (wr.drewN nn)) HG.out (by simp only; omega) _
                    have HO2 : Hid (((wr.drewN nn).setCell ⟨g2, i, none⟩ (.bool BV)).ownsRow w.heap.size 3 1 (.slice (some ⟨gb, 0, none⟩) st.length cp) st.length (placeRow p st)) := (((Kept.refl (one g2) wr).drewN nn).set1 i _).owns HO3.out (fun j hj e => by simp only [one] at e; simp [Value.ownBlock] at hj; omega)
                    have hb2 : Below w.heap.size w ((wr.drewN nn).setCell ⟨g2, i, none⟩ (.bool BV)) := Below.setCell (w := (wr.drewN nn)) ⟨hb3.os, hb3.tape, hb3.output, hb3.size, hb3.block⟩ (p := ⟨g2, i, none⟩) (by simp only; omega) _
                    have hc2 : ((wr.drewN nn)).cell? ⟨g2, i, none⟩ = _ := HN.out.cell (i := i) (by omega)
                    have hf2 : ((wr.drewN nn)).frozen? ⟨g2, i, none⟩ = false := HN.out.frozen i
                    clear HN HG HO3 hb3 HV
                    go_wp2_with fail
                    go_roundw
                    case rel => exact ⟨i, by omega, by go_num, HN2, HG2, HO2, hb2⟩
                    case measure => simp only [intOf]; omega
                · have hise : ¬ ((i : Nat) : Int) < ((s.size : Nat) : Int) := by omega
                  have hie : i = s.data.toList.length := by rw [size_list]; omega
                  have HV : Hid (mat ((st.map Prod.snd).drop k) (s.data.toList.drop i) = false) := by rw [Hid, hie]; exact mat_back_end hks hmm
                  have HN2 : Hid ((wr.setCell ⟨g2, i, none⟩ (.bool false)).rowIs g2 4 (s.size + 1) (fun j => .bool (if i ≤ j then mat ((st.map Prod.snd).drop k) (s.data.toList.drop j) else false))) := (World.rowIs.set (w := wr) HN.out i (.bool false)).congr (fun j _ => nowStep (f := fun j => mat ((st.map Prod.snd).drop k) (s.data.toList.drop j)) HV.out j)
                  have HG2 : Hid ((wr.setCell ⟨g2, i, none⟩ (.bool false)).rowIs g 4 (s.size + 1) (fun j => .bool (mat ((st.map Prod.snd).drop (k + 1)) (s.data.toList.drop j)))) := World.rowIs.setOther (w := wr) HG.out (by simp only; omega) _
                  have HO2 : Hid ((wr.setCell ⟨g2, i, none⟩ (.bool false)).ownsRow w.heap.size 3 1 (.slice (some ⟨gb, 0, none⟩) st.length cp) st.length (placeRow p st)) := ((Kept.refl (one g2) wr).set1 i _).owns HO3.out (fun j hj e => by simp only [one] at e; simp [Value.ownBlock] at hj; omega)
                  have hb2 : Below w.heap.size w (wr.setCell ⟨g2, i, none⟩ (.bool false)) := Below.setCell (w := wr) ⟨hb3.os, hb3.tape, hb3.output, hb3.size, hb3.block⟩ (p := ⟨g2, i, none⟩) (by simp only; omega) _
                  have hc2 : (wr).cell? ⟨g2, i, none⟩ = _ := HN.out.cell (i := i) (by omega)
                  have hf2 : (wr).frozen? ⟨g2, i, none⟩ = false := HN.out.frozen i
                  clear HN HG HO3 hb3 HV hie hil hA
                  go_wp2_with fail
                  go_roundw
                  case rel => exact ⟨i, by omega, by go_num, HN2, HG2, HO2, hb2⟩
                  case measure => simp only [intOf]; omega
end Go.Proofs.Ytolpmaapdkhigaa
