/- WALKS of the reference's parts: where one ends, and what it may be. -/
import Derived.Test.YtolpmaapdkhigaaGRef3
import Derived.Handy
namespace Go.Proofs.Ytolpmaapdkhigaa
open Go.RowKit

set_option maxRecDepth 100000 in
set_option maxHeartbeats 2000000 in
theorem partEnd_any (s : ByteArray) (i : Nat) (c : UInt8) (l q : List UInt8) (p : Part) (w : World) (h : Pos s i (c :: l)) (hs : s.size ≤ 60) (hp : pPart (c :: l) = .ok (p, q)) :
    Calls Try.prog 13 #[.string s, .int .i64 (i : Int)] w fun e w' => e = .returned (.int .i64 ((s.size - q.length : Nat) : Int)) ∧ ∃ n, w' = w.drewN n := by
  have hlen := h.len
  simp only [List.length_cons] at hlen
  have hlt : i < s.size := by omega
  have g0 : s[i] = c := h.get 0 (by simp) hlt
  have hq := (pPart_suffix hp).2
  simp only [List.length_cons] at hq
  by_cases h92 : c = 92
  · subst h92
    have t92 : s[i].toNat = 92 := by rw [g0]; rfl
    cases l with
    | nil => simp [pPart, pEsc] at hp
    | cons d r =>
      have hqr : q = r := by
        rw [show pPart (92 :: d :: r) = .ok (.lit d, r) from rfl] at hp
        simp at hp
        exact hp.2.symm
      subst hqr
      have HV : Hid (s.size - q.length = i + 2) := by simp at hlen; unfold Hid; omega
      clear g0 hp h hq
      go_enter Try.func13, Try.ntmps13
      go_wp2_with fail
      go_ret
      rw [HV.out]
      exact ⟨rfl, 0, rfl⟩
  · have t92 : ¬ s[i].toNat = 92 := by rw [g0]; exact fun e => h92 (UInt8.toNat_inj.mp (by simpa using e))
    by_cases h91 : c = 91
    · subst h91
      have t91 : s[i].toNat = 91 := by rw [g0]; rfl
      have hpb : pBracket l = .ok (p, q) := hp
      have hz := (clsRet_bracket (s := s) (l := l)).1 p q hpb
      have hne : l ≠ [] := by
        intro e
        subst e
        simp [pBracket, pCls, pClsF] at hpb
      by_cases hh : l.head? = some 94
      · obtain ⟨r, rfl⟩ : ∃ r, l = 94 :: r := by
          cases l with
          | nil => simp at hh
          | cons x r => simp at hh; exact ⟨r, by rw [hh]⟩
        have hi1 : i + 1 < s.size := by simp at hlen; omega
        have t94 : s[i + 1].toNat = 94 := by rw [h.get 1 (by simp) hi1]; rfl
        have HCA : Hid (∀ W, Calls Try.prog 12 #[.string s, .int .i64 (((i : Nat) : Int) + 1 + 1)] W fun e w' => e = .returned (.tuple #[.int .i64 ((s.size - q.length - 1 : Nat) : Int), .bool true]) ∧ ∃ n, w' = W.drewN n) := fun W => by
          have := classAt_any s (i + 2) r W (h.skip 2 (by simp)) (by omega)
          rw [show ((i + 2 : Nat) : Int) = ((i : Nat) : Int) + 1 + 1 by omega] at this
          rw [← hz]
          exact this
        have HV : Hid (((s.size - q.length - 1 : Nat) : Int) + 1 = ((s.size - q.length : Nat) : Int)) := by simp at hlen hq; unfold Hid; omega
        have hsm : s.size - q.length - 1 ≤ 60 := by omega
        clear g0 hh hp hpb hz h hne
        generalize s.size - q.length - 1 = tt at *
        go_enter Try.func13, Try.ntmps13
        go_wp2_with fail
        refine (HCA.out _).mono ?_
        rintro e w1 ⟨rfl, nn, rfl⟩
        go_wp2_with fail
        go_ret
        rw [← HV.out]
        exact ⟨rfl, _, rfl⟩
      · have hin : inside l = l := by unfold inside; rw [if_neg hh]
        rw [hin] at hz
        have hi1 : i + 1 < s.size := by
          cases l with
          | nil => exact absurd rfl hne
          | cons x r => simp at hlen; omega
        have t94 : ¬ s[i + 1].toNat = 94 := by
          cases l with
          | nil => exact absurd rfl hne
          | cons x r =>
            rw [h.get 1 (by simp) hi1]
            intro e
            apply hh
            simp
            exact UInt8.toNat_inj.mp (by simpa using e)
        have HCA : Hid (∀ W, Calls Try.prog 12 #[.string s, .int .i64 (((i : Nat) : Int) + 1)] W fun e w' => e = .returned (.tuple #[.int .i64 ((s.size - q.length - 1 : Nat) : Int), .bool true]) ∧ ∃ n, w' = W.drewN n) := fun W => by
          have := classAt_any s (i + 1) l W h.tail (by omega)
          rw [← hz]
          exact this
        have HV : Hid (((s.size - q.length - 1 : Nat) : Int) + 1 = ((s.size - q.length : Nat) : Int)) := by unfold Hid; omega
        have hsm : s.size - q.length - 1 ≤ 60 := by omega
        clear g0 hh hp hpb hz h hne hin
        generalize s.size - q.length - 1 = tt at *
        go_enter Try.func13, Try.ntmps13
        go_wp2_with fail
        refine (HCA.out _).mono ?_
        rintro e w1 ⟨rfl, nn, rfl⟩
        go_wp2_with fail
        go_ret
        rw [← HV.out]
        exact ⟨rfl, _, rfl⟩
    · have t91 : ¬ s[i].toNat = 91 := by rw [g0]; exact fun e => h91 (UInt8.toNat_inj.mp (by simpa using e))
      have hql : q = l := by
        rw [pPart] at hp
        split at hp
        · simp at hp; exact hp.2.symm
        · split at hp
          · simp at hp; exact hp.2.symm
          · simp at hp
            exact hp.2.symm
      subst hql
      have HV : Hid (s.size - q.length = i + 1) := by unfold Hid; omega
      clear g0 hp h hq
      go_enter Try.func13, Try.ntmps13
      go_wp2_with fail
      go_ret
      rw [HV.out]
      exact ⟨rfl, 0, rfl⟩

/-- what stands within brackets, and its spans -/
theorem cls_text : ∀ (f : Nat) (l : List UInt8) (xs : List (UInt8 × UInt8)) (q : List UInt8), pClsF f l = .ok (xs, q) → ∃ t, l = t ++ 93 :: q ∧ (∀ y ∈ t, y ≠ 93) ∧ ∀ g, t.length < g → spansF g t = xs
  | 0, _, _, _, h => by simp [pClsF] at h
  | _ + 1, [], _, _, h => by simp [pClsF] at h
  | f + 1, c :: l, xs, q, h => by
    rw [pClsF] at h
    by_cases hc : c = 93
    · rw [if_pos hc] at h
      simp at h
      obtain ⟨rfl, rfl⟩ := h
      subst hc
      exact ⟨[], rfl, by simp, fun g _ => spansF_nil g⟩
    · rw [if_neg hc] at h
      cases hs : pSpan c l with
      | error e => rw [hs] at h; simp at h
      | ok y =>
        obtain ⟨x, q1⟩ := y
        rw [hs] at h
        simp only at h
        cases hr : pClsF f q1 with
        | error e => rw [hr] at h; simp at h
        | ok z =>
          obtain ⟨ys, q2⟩ := z
          rw [hr] at h
          simp at h
          obtain ⟨rfl, rfl⟩ := h
          obtain ⟨t1, e1, n1, sp1⟩ := cls_text f q1 ys q2 hr
          by_cases hsp : ∃ d r, l = 45 :: d :: r ∧ d ≠ 93
          · obtain ⟨d, r, rfl, hd⟩ := hsp
            simp only [pSpan, if_neg hd] at hs
            split at hs
            · simp at hs
              obtain ⟨rfl, rfl⟩ := hs
              refine ⟨c :: 45 :: d :: t1, by rw [e1]; rfl, fun y hy => ?_, fun g hg => ?_⟩
              · simp at hy
                rcases hy with rfl | rfl | rfl | hy
                · exact hc
                · decide
                · exact hd
                · exact n1 y hy
              · obtain ⟨g, rfl⟩ : ∃ g', g = g' + 1 := ⟨g - 1, by omega⟩
                simp only [List.length_cons] at hg
                rw [spansF_span, sp1 g (by omega)]
            · simp at hs
          · have hps : pSpan c l = .ok ((c, c), l) := by
              unfold pSpan
              split
              · rename_i d r
                split
                · rfl
                · rename_i hd
                  exact absurd ⟨d, r, rfl, hd⟩ hsp
              · rfl
            rw [hps] at hs
            simp at hs
            obtain ⟨rfl, rfl⟩ := hs
            refine ⟨c :: t1, by rw [e1]; rfl, fun y hy => ?_, fun g hg => ?_⟩
            · simp at hy
              rcases hy with rfl | hy
              · exact hc
              · exact n1 y hy
            · obtain ⟨g, rfl⟩ : ∃ g', g = g' + 1 := ⟨g - 1, by omega⟩
              simp only [List.length_cons] at hg
              rw [spansF_one g c t1 (fun d r e => ?_), sp1 g (by omega)]
              subst e
              exact hsp ⟨d, r ++ 93 :: q2, by rw [e1]; rfl, n1 d (by simp)⟩

/-- a part's own text -/
def partText (l q : List UInt8) : ByteArray := ⟨(l.take (l.length - q.length)).toArray⟩
theorem text_take (t : List UInt8) (c : UInt8) (q : List UInt8) : (t ++ c :: q).take ((t ++ c :: q).length - q.length) = t ++ [c] := by
  have : (t ++ c :: q).length - q.length = (t ++ [c]).length := by simp; omega
  rw [this, show t ++ c :: q = (t ++ [c]) ++ q by simp, List.take_left]
theorem slice_mid (s : ByteArray) (a b : Nat) (hab : a ≤ b) (hb : b ≤ s.size) (W : World) (t : List UInt8) (ht : (s.data.toList.drop a).take (b - a) = t) :
    (Instr.slice 9 (.string s) (some (.int .i64 (a : Int))) (some (.int .i64 (b : Int))) none).run Try.prog W = .ok (.string ⟨t.toArray⟩) W := by
  rw [run_slice_string (P := Try.prog) W 9 s .i64 .i64 _ _ Try.underlying9 (by omega) (by omega) (by omega), Int.toNat_natCast, Int.toNat_natCast, extract_list, ht]

set_option maxRecDepth 100000 in
set_option maxHeartbeats 2000000 in
theorem partMay_any (d c : UInt8) (l q : List UInt8) (p : Part) (w : World) (hs : l.length ≤ 60) (hp : pPart (c :: l) = .ok (p, q)) (h42 : c ≠ 42) :
    Calls Try.prog 14 #[.string (partText (c :: l) q), .int .u8 d.toNat] w fun e w' => e = .returned (.bool (p.may d)) ∧ ∃ n, w' = w.drewN n := by
  have hq := (pPart_suffix hp).2
  simp only [List.length_cons] at hq
  obtain ⟨T, hT⟩ : ∃ T, T = partText (c :: l) q := ⟨_, rfl⟩
  have hTl : T.data.toList = (c :: l).take (l.length + 1 - q.length) := by rw [hT, partText, toList_mk, List.length_cons]
  have hTs : T.size = l.length + 1 - q.length := by rw [← size_list, hTl, List.length_take, List.length_cons]; omega
  have i0 : 0 < T.size := by omega
  have hPT : Pos T 0 T.data.toList := ⟨by simp, Nat.zero_le _⟩
  have g0 : T[0] = c := by
    have := hPT.get 0 (by rw [size_list]; exact i0) (by omega)
    simp only [Nat.zero_add] at this
    rw [this]
    simp only [hTl]
    rw [List.getElem_take]
    rfl
  rw [← hT]
  by_cases h63 : c = 63
  · have t63 : T[0].toNat = 63 := by rw [g0, h63]; rfl
    have hm : p.may d = true := by
      rw [h63] at hp
      rw [show pPart (63 :: l) = .ok (.any, l) from rfl] at hp
      simp at hp
      rw [← hp.1]
      rfl
    rw [hm]
    clear hp hT hTl g0 hPT hm
    go_enter Try.func14, Try.ntmps14
    go_wp2_with fail
    go_ret
    exact ⟨rfl, 0, rfl⟩
  have t63 : ¬ T[0].toNat = 63 := by rw [g0]; exact fun e => h63 (UInt8.toNat_inj.mp (by simpa using e))
  by_cases h92 : c = 92
  · have t92 : T[0].toNat = 92 := by rw [g0, h92]; rfl
    subst h92
    cases l with
    | nil => simp [pPart, pEsc] at hp
    | cons x r =>
      rw [show pPart (92 :: x :: r) = .ok (.lit x, r) from rfl] at hp
      simp at hp
      obtain ⟨rfl, rfl⟩ := hp
      simp only [List.length_cons] at hTs hTl
      have i1 : 1 < T.size := by omega
      have g1 : T[1] = x := by
        have := hPT.get 1 (by rw [size_list]; exact i1) (by omega)
        simp only [Nat.zero_add] at this
        rw [this]
        simp only [hTl]
        rw [List.getElem_take]
        rfl
      have hst : (((T[1].toNat : Nat) : Int) == ((d.toNat : Nat) : Int)) = (d == x) := by rw [g1, u8_beq, Bool.beq_comm]
      have hm : (Part.lit x).may d = (d == x) := rfl
      rw [hm, ← hst]
      clear hT hTl g0 g1 hPT hm hst
      go_enter Try.func14, Try.ntmps14
      go_wp2_with fail
      go_ret
      exact ⟨rfl, 0, rfl⟩
  have t92 : ¬ T[0].toNat = 92 := by rw [g0]; exact fun e => h92 (UInt8.toNat_inj.mp (by simpa using e))
  by_cases h91 : c = 91
  · have t91 : T[0].toNat = 91 := by rw [g0, h91]; rfl
    subst h91
    have hpb : pBracket l = .ok (p, q) := hp
    rw [pBracket_of] at hpb
    cases hc : pCls (inside l) with
    | error e => rw [hc] at hpb; simp [brOf] at hpb
    | ok y =>
      obtain ⟨xs, q1⟩ := y
      rw [hc] at hpb
      cases xs with
      | nil => simp [brOf] at hpb
      | cons x xs =>
        simp [brOf] at hpb
        obtain ⟨hpp, rfl⟩ := hpb
        obtain ⟨t, ht, _, hsp⟩ := cls_text _ _ _ _ hc
        by_cases hh : l.head? = some 94
        · obtain ⟨r, rfl⟩ : ∃ r, l = 94 :: r := by
            cases l with
            | nil => simp at hh
            | cons x r => simp at hh; exact ⟨r, by rw [hh]⟩
          have hr : r = t ++ 93 :: q1 := by
            rw [← ht]
            rfl
          subst hr
          have hTt : T.data.toList = 91 :: 94 :: (t ++ [93]) := by
            rw [hT, partText, toList_mk]
            exact text_take (91 :: 94 :: t) 93 q1
          have hTz : T.size = t.length + 3 := by rw [← size_list, hTt]; simp
          have i1 : 1 < T.size := by omega
          have g1 : T[1].toNat = 94 := by
            have := hPT.get 1 (by rw [size_list]; exact i1) (by omega)
            simp only [Nat.zero_add] at this
            rw [this]
            simp only [hTt]
            rfl
          have hsl : ∀ W : World, (Instr.slice 9 (.string T) (some (.int .i64 2)) (some (.int .i64 (((T.size : Nat) : Int) - 1))) none).run Try.prog W = .ok (.string ⟨t.toArray⟩) W := fun W => by
            have := slice_mid T 2 (T.size - 1) (by omega) (by omega) W t (by rw [hTt, hTz]; simp)
            rw [show ((T.size - 1 : Nat) : Int) = ((T.size : Nat) : Int) - 1 by omega] at this
            exact this
          have HC := hide (fun W => inClass_any ⟨t.toArray⟩ d W (by rw [size_mk]; simp at hs; omega))
          have hval : (spansF ((⟨t.toArray⟩ : ByteArray).size + 1) (⟨t.toArray⟩ : ByteArray).data.toList) = x :: xs := by rw [toList_mk, size_mk]; exact hsp _ (by omega)
          rw [hval] at HC
          have hm : p.may d = !((x :: xs).any (inSpan d)) := by
            rw [← hpp]
            simp [Part.may]
          rw [hm]
          generalize (x :: xs).any (inSpan d) = R at *
          generalize (⟨t.toArray⟩ : ByteArray) = TT at *
          have hTb : T.size ≤ 70 := by simp at hs; omega
          clear hT hTl hTt hPT g0 hval hm hpp hc hp ht hsp hh hTs hTz hq
          go_enter Try.func14, Try.ntmps14
          go_wp2_with fail
          refine (HC.out _).mono ?_
          rintro e w1 ⟨rfl, nn, rfl⟩
          go_wp2_with fail
          go_ret
          exact ⟨rfl, _, rfl⟩
        · have hin : inside l = l := by unfold inside; rw [if_neg hh]
          rw [hin] at ht
          subst ht
          have hTt : T.data.toList = 91 :: (t ++ [93]) := by
            rw [hT, partText, toList_mk]
            exact text_take (91 :: t) 93 q1
          have hTz : T.size = t.length + 2 := by rw [← size_list, hTt]; simp
          have i1 : 1 < T.size := by omega
          have g1 : ¬ T[1].toNat = 94 := by
            have := hPT.get 1 (by rw [size_list]; exact i1) (by omega)
            simp only [Nat.zero_add] at this
            rw [this]
            simp only [hTt]
            intro e
            apply hh
            cases t with
            | nil => simp at e
            | cons y t =>
              simp at e ⊢
              exact UInt8.toNat_inj.mp (by simpa using e)
          have hsl : ∀ W : World, (Instr.slice 9 (.string T) (some (.int .i64 1)) (some (.int .i64 (((T.size : Nat) : Int) - 1))) none).run Try.prog W = .ok (.string ⟨t.toArray⟩) W := fun W => by
            have := slice_mid T 1 (T.size - 1) (by omega) (by omega) W t (by rw [hTt, hTz]; simp)
            rw [show ((T.size - 1 : Nat) : Int) = ((T.size : Nat) : Int) - 1 by omega] at this
            exact this
          have HC := hide (fun W => inClass_any ⟨t.toArray⟩ d W (by rw [size_mk]; simp at hs; omega))
          have hval : (spansF ((⟨t.toArray⟩ : ByteArray).size + 1) (⟨t.toArray⟩ : ByteArray).data.toList) = x :: xs := by rw [toList_mk, size_mk]; exact hsp _ (by omega)
          rw [hval] at HC
          have hm : p.may d = (x :: xs).any (inSpan d) := by
            rw [← hpp]
            have hh2 : ((t ++ 93 :: q1).head? == some 94) = false := by rw [beq_eq_false_iff_ne]; exact hh
            simp only [Part.may, hh2]
            simp
          rw [hm]
          generalize (x :: xs).any (inSpan d) = R at *
          generalize (⟨t.toArray⟩ : ByteArray) = TT at *
          have hTb : T.size ≤ 70 := by simp at hs; omega
          clear hT hTl hTt hPT g0 hval hm hpp hc hp hsp hh hTs hTz hq hin
          go_enter Try.func14, Try.ntmps14
          go_wp2_with fail
          refine (HC.out _).mono ?_
          rintro e w1 ⟨rfl, nn, rfl⟩
          go_wp2_with fail
          go_ret
          exact ⟨rfl, _, rfl⟩
  · have t91 : ¬ T[0].toNat = 91 := by rw [g0]; exact fun e => h91 (UInt8.toNat_inj.mp (by simpa using e))
    have hpl : p = .lit c := by
      rw [pPart, if_neg h42, if_neg h63, if_neg h91, if_neg h92] at hp
      simp at hp
      exact hp.1.symm
    have hst : (((T[0].toNat : Nat) : Int) == ((d.toNat : Nat) : Int)) = (d == c) := by rw [g0, u8_beq, Bool.beq_comm]
    have hm : p.may d = (d == c) := by rw [hpl]; rfl
    rw [hm, ← hst]
    clear hT hTl g0 hPT hm hst hpl hp hTs
    go_enter Try.func14, Try.ntmps14
    go_wp2_with fail
    go_ret
    exact ⟨rfl, 0, rfl⟩
end Go.Proofs.Ytolpmaapdkhigaa
