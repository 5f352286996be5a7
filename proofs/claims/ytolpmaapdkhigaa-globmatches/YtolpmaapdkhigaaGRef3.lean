/- WALKS of the reference's check of a pattern, and of where a part ends. -/
import Derived.Test.YtolpmaapdkhigaaGRef2
import Derived.Test.YtolpmaapdkhigaaGTell
import Derived.Handy
namespace Go.Proofs.Ytolpmaapdkhigaa
open Go.RowKit

theorem Pos.inside {s : ByteArray} {i : Nat} {l : List UInt8} (h : Pos s i l) : Pos s (i + (l.length - (inside l).length)) (inside l) ∧ (l.head? = some 94 → l.length - (inside l).length = 1) ∧ (¬ l.head? = some 94 → inside l = l) := by
  unfold Go.Proofs.Ytolpmaapdkhigaa.inside
  split
  · rename_i hh
    cases l with
    | nil => simp at hh
    | cons c r =>
      simp only [List.tail_cons, List.length_cons]
      rw [show r.length + 1 - r.length = 1 by omega]
      exact ⟨h.tail, fun _ => rfl, fun e => absurd hh e⟩
  · rename_i hh
    rw [Nat.sub_self]
    exact ⟨h, fun e => absurd e hh, fun _ => rfl⟩
theorem Pos.suffix {s : ByteArray} {i : Nat} {l q : List UInt8} (h : Pos s i l) (hq : q <:+ l) : Pos s (s.size - q.length) q := by
  obtain ⟨t, rfl⟩ := hq
  have hl := h.len
  simp only [List.length_append] at hl
  have := h.skip t.length (by simp)
  rw [List.drop_left] at this
  rwa [show i + t.length = s.size - q.length by omega] at this
/-- how the reading of a bracket ends, by places -/
theorem clsRet_bracket {s : ByteArray} {l : List UInt8} : (∀ p q, pBracket l = .ok (p, q) → clsRet s true (Go.Proofs.Ytolpmaapdkhigaa.inside l) = .returned (.tuple #[.int .i64 ((s.size - q.length - 1 : Nat) : Int), .bool true])) ∧
    (∀ n, pBracket l = .error n → ∃ z : Int, clsRet s true (Go.Proofs.Ytolpmaapdkhigaa.inside l) = .returned (.tuple #[.int .i64 z, .bool false])) := by
  rw [pBracket_of]
  unfold clsRet
  cases hc : pCls (Go.Proofs.Ytolpmaapdkhigaa.inside l) with
  | error e => exact ⟨fun p q h => by simp [brOf] at h, fun n _ => ⟨0, rfl⟩⟩
  | ok y =>
    obtain ⟨xs, q1⟩ := y
    cases xs with
    | nil => exact ⟨fun p q h => by simp [brOf] at h, fun n _ => ⟨_, rfl⟩⟩
    | cons x xs =>
      refine ⟨fun p q h => ?_, fun n h => by simp [brOf] at h⟩
      simp [brOf] at h
      obtain ⟨_, rfl⟩ := h
      rfl

set_option maxRecDepth 100000 in
set_option maxHeartbeats 2000000 in
theorem checkGlob_any (s : ByteArray) (w : World) :
    Calls Try.prog 6 #[.string s] w fun e w' => e = .returned (.int .i64 (checkG s)) ∧ Below w.heap.size w w' := by
  by_cases hs : 60 < s.size
  · have hs' : (60 : Int) < ((s.size : Nat) : Int) := by omega
    have hc : checkG s = 2 := by rw [checkG, if_pos hs]
    rw [hc]
    clear hc
    go_enter Try.func6, Try.ntmps6
    go_wp2_with fail
    go_ret
    exact ⟨rfl, Below.refl _ _⟩
  · have hs' : ¬ (60 : Int) < ((s.size : Nat) : Int) := by omega
    have HG : Hid ((∀ ps, pParts s.data.toList = .ok ps → checkG s = 0) ∧ (∀ n, pParts s.data.toList = .error n → checkG s = 1)) := ⟨fun ps h => by rw [checkG, if_neg hs, h], fun n h => by rw [checkG, if_neg hs, h]⟩
    generalize checkG s = C at *
    go_enter Try.func6, Try.ntmps6
    go_wp2_with fail
    go_loopw [3] (fun vi wr => ∃ (i : Nat) (l : List UInt8) (acc : List Part), vi = .int .i64 i ∧ Hid (Pos s i l) ∧ Below w.heap.size w wr ∧ Hid (pParts s.data.toList = aheadP acc (pParts l))) (fun vi _ => s.size + 1 - (intOf vi).toNat)
    case atStart => exact ⟨0, s.data.toList, [], rfl, ⟨by simp, Nat.zero_le _⟩, Below.refl _ _, by rw [Hid, aheadP_nil]⟩
    case round =>
      obtain ⟨i, l, acc, rfl, HP, hb, HR⟩ := hrel
      have hlen := HP.out.len
      cases l with
      | nil =>
        simp only [List.length_nil, Nat.add_zero] at hlen
        have hge : ¬ ((i : Nat) : Int) < ((s.size : Nat) : Int) := by omega
        have HV : Hid (C = 0) := HG.out.1 acc (by rw [HR.out, pParts_nil]; simp [aheadP])
        go_wp2_with fail
        go_ret
        rw [HV.out]
        exact ⟨rfl, hb⟩
      | cons c l =>
        simp only [List.length_cons] at hlen
        have hlt : i < s.size := by omega
        have g0 : s[i] = c := HP.out.get 0 (by simp) hlt
        have HP1 : Hid (Pos s (i + 1) l) := HP.out.tail
        have hBAD : Hid (∀ n, pPart (c :: l) = .error n → C = 1) := fun n h => HG.out.2 n (by rw [HR.out, aheadP_err h])
        have hOK : Hid (∀ p q, pPart (c :: l) = .ok (p, q) → pParts s.data.toList = aheadP (acc ++ [p]) (pParts q)) := fun p q h => by rw [HR.out, aheadP_ok h]
        by_cases h92 : c = 92
        · have t92 : s[i].toNat = 92 := by rw [g0, h92]; rfl
          subst h92
          cases l with
          | nil =>
            have HV : Hid (C = 1) := hBAD.out 8 rfl
            have hend : ((i : Nat) : Int) + 1 = ((s.size : Nat) : Int) := by simp at hlen; omega
            clear g0 hBAD hOK HR HP
            go_wp2_with fail
            go_ret
            rw [HV.out]
            exact ⟨rfl, hb⟩
          | cons d r =>
            have HV := hide (hOK.out (.lit d) r rfl)
            have HP2 : Hid (Pos s (i + 2) r) := HP.out.skip 2 (by simp)
            have hend : ¬ ((i : Nat) : Int) + 1 = ((s.size : Nat) : Int) := by simp at hlen; omega
            clear g0 hBAD hOK HR HP
            go_wp2_with fail
            go_roundw
            case rel => exact ⟨i + 2, r, acc ++ [.lit d], by go_num, HP2, hb, HV⟩
            case measure => simp only [intOf]; omega
        · have t92 : ¬ s[i].toNat = 92 := by rw [g0]; exact fun e => h92 (UInt8.toNat_inj.mp (by simpa using e))
          by_cases h91 : c = 91
          · have t91 : s[i].toNat = 91 := by rw [g0, h91]; rfl
            subst h91
            by_cases hh : l.head? = some 94
            · obtain ⟨r, rfl⟩ : ∃ r, l = 94 :: r := by
                cases l with
                | nil => simp at hh
                | cons x r => simp at hh; exact ⟨r, by rw [hh]⟩
              have hi1 : i + 1 < s.size := by simp at hlen; omega
              have t94 : s[i + 1].toNat = 94 := by rw [HP.out.get 1 (by simp) hi1]; rfl
              have HCA : Hid (∀ W, Calls Try.prog 12 #[.string s, .int .i64 (((i : Nat) : Int) + 1 + 1)] W fun e w' => e = clsRet s true (Go.Proofs.Ytolpmaapdkhigaa.inside (94 :: r)) ∧ ∃ n, w' = W.drewN n) := fun W => by
                have := classAt_any s (i + 2) r W (HP.out.skip 2 (by simp)) (by omega)
                rw [show ((i + 2 : Nat) : Int) = ((i : Nat) : Int) + 1 + 1 by omega] at this
                exact this
              clear g0 hh
              generalize hll : (94 :: r : List UInt8) = l at *
              cases hpb : pBracket l with
              | error n =>
                obtain ⟨z, hz⟩ := (clsRet_bracket (s := s) (l := l)).2 n hpb
                have HV : Hid (C = 1) := hBAD.out n hpb
                rw [hz] at HCA
                clear hBAD hOK HR HP hpb hz
                go_wp2_with fail
                refine (HCA.out _).mono ?_
                rintro e w1 ⟨rfl, nn, rfl⟩
                go_wp2_with fail
                go_ret
                rw [HV.out]
                exact ⟨rfl, ⟨hb.os, hb.tape, hb.output, hb.size, hb.block⟩⟩
              | ok y =>
                obtain ⟨p, q⟩ := y
                have hz := (clsRet_bracket (s := s) (l := l)).1 p q hpb
                have HV := hide (hOK.out p q hpb)
                have hsuf := pPart_suffix (show pPart (91 :: l) = .ok (p, q) from hpb)
                have HP2 := hide (HP.out.suffix hsuf.1)
                have hql : q.length < l.length + 1 := by simpa using hsuf.2
                rw [hz] at HCA
                clear hBAD hOK HR HP hpb hz hsuf
                generalize hto : s.size - q.length - 1 = tt at *
                go_wp2_with fail
                refine (HCA.out _).mono ?_
                rintro e w1 ⟨rfl, nn, rfl⟩
                go_wp2_with fail
                go_roundw
                case rel => exact ⟨s.size - q.length, q, acc ++ [p], by congr 1; omega, HP2, ⟨hb.os, hb.tape, hb.output, hb.size, hb.block⟩, HV⟩
                case measure => simp only [intOf]; omega
            · have hin : Go.Proofs.Ytolpmaapdkhigaa.inside l = l := by unfold Go.Proofs.Ytolpmaapdkhigaa.inside; rw [if_neg hh]
              have HCA : Hid (∀ W, Calls Try.prog 12 #[.string s, .int .i64 (((i : Nat) : Int) + 1)] W fun e w' => e = clsRet s true (Go.Proofs.Ytolpmaapdkhigaa.inside l) ∧ ∃ n, w' = W.drewN n) := fun W => by
                have := classAt_any s (i + 1) l W HP1.out (by omega)
                rw [hin]
                exact this
              have hgo : (∃ h1 : i + 1 < s.size, ¬ s[i + 1].toNat = 94) ∨ ¬ ((i : Nat) : Int) + 1 < ((s.size : Nat) : Int) := by
                by_cases h1 : i + 1 < s.size
                · refine .inl ⟨h1, ?_⟩
                  cases l with
                  | nil => simp at hlen; omega
                  | cons x r =>
                    rw [HP.out.get 1 (by simp) h1]
                    intro e
                    apply hh
                    simp
                    exact UInt8.toNat_inj.mp (by simpa using e)
                · exact .inr (by omega)
              clear g0 hh hin
              rcases hgo with ⟨h1, hn94⟩ | h1
              all_goals
                cases hpb : pBracket l with
                | error n =>
                  obtain ⟨z, hz⟩ := (clsRet_bracket (s := s) (l := l)).2 n hpb
                  have HV : Hid (C = 1) := hBAD.out n hpb
                  rw [hz] at HCA
                  clear hBAD hOK HR HP hpb hz
                  go_wp2_with fail
                  refine (HCA.out _).mono ?_
                  rintro e w1 ⟨rfl, nn, rfl⟩
                  go_wp2_with fail
                  go_ret
                  rw [HV.out]
                  exact ⟨rfl, ⟨hb.os, hb.tape, hb.output, hb.size, hb.block⟩⟩
                | ok y =>
                  obtain ⟨p, q⟩ := y
                  have hz := (clsRet_bracket (s := s) (l := l)).1 p q hpb
                  have HV := hide (hOK.out p q hpb)
                  have hsuf := pPart_suffix (show pPart (91 :: l) = .ok (p, q) from hpb)
                  have HP2 := hide (HP.out.suffix hsuf.1)
                  have hql : q.length < l.length + 1 := by simpa using hsuf.2
                  rw [hz] at HCA
                  clear hBAD hOK HR HP hpb hz hsuf
                  generalize hto : s.size - q.length - 1 = tt at *
                  go_wp2_with fail
                  refine (HCA.out _).mono ?_
                  rintro e w1 ⟨rfl, nn, rfl⟩
                  go_wp2_with fail
                  go_roundw
                  case rel => exact ⟨s.size - q.length, q, acc ++ [p], by congr 1; omega, HP2, ⟨hb.os, hb.tape, hb.output, hb.size, hb.block⟩, HV⟩
                  case measure => simp only [intOf]; omega
          · have t91 : ¬ s[i].toNat = 91 := by rw [g0]; exact fun e => h91 (UInt8.toNat_inj.mp (by simpa using e))
            have hp : ∃ p, pPart (c :: l) = .ok (p, l) := by
              rw [pPart]
              split
              · exact ⟨_, rfl⟩
              · split
                · exact ⟨_, rfl⟩
                · exact ⟨_, rfl⟩
            obtain ⟨p, hp⟩ := hp
            have HV := hide (hOK.out p l hp)
            clear g0 hBAD hOK HR HP hp
            go_wp2_with fail
            go_roundw
            case rel => exact ⟨i + 1, l, acc ++ [p], by go_num, HP1, hb, HV⟩
            case measure => simp only [intOf]; omega
end Go.Proofs.Ytolpmaapdkhigaa
