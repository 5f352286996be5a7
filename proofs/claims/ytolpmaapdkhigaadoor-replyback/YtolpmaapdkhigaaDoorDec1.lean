/- WALKS of the reading of lines. -/
import Derived.Test.YtolpmaapdkhigaaDoorScan2
import Derived.Test.YtolpmaapdkhigaaDoorShelf2
namespace Go.Proofs.YtolpmaapdkhigaaDoor
open Go.RowKit

/-- does a line's end stand here? -/
def hasLE : List UInt8 → Bool
  | 13 :: 10 :: _ => true
  | _ => false
theorem hasLE_eq (l : List UInt8) : Lib.hasPrefix l [13, 10] = hasLE l := by
  unfold Lib.hasPrefix
  match l with
  | [] => rfl
  | [a] => simp [hasLE, List.isPrefixOf]
  | a :: b :: r =>
    simp only [List.isPrefixOf, Bool.and_true]
    unfold hasLE
    split
    · rename_i e
      simp at e
      obtain ⟨rfl, rfl, rfl⟩ := e
      rfl
    · rename_i h
      simp only [Bool.and_eq_false_imp, beq_iff_eq]
      intro ha
      rw [beq_eq_false_iff_ne]
      intro hb
      exact h r (by rw [← ha, ← hb])
theorem hasLE_must {l : List UInt8} (h : hasLE l = true) : pMust [13, 10] l = .ok (l.drop 2) := by
  match l, h with
  | [], h => simp [hasLE] at h
  | [a], h => simp [hasLE] at h
  | a :: b :: r, h =>
    unfold hasLE at h
    split at h
    · rename_i e; simp at e; obtain ⟨rfl, rfl, rfl⟩ := e; simp [pMust]
    · simp at h

theorem pMust_suffix2 {c : UInt8} {r : List UInt8} (h : hasLE (c :: r) = true) : (c :: r).length = ([] : List UInt8).length + 2 + (r.tail).length ∧ r.tail <:+ c :: r := by
  match r, h with
  | [], h => simp [hasLE] at h
  | d :: r, h => exact ⟨by simp; omega, (List.suffix_cons d r).trans (List.suffix_cons c (d :: r))⟩

/-- the bytes ahead of a line's end, and those behind it -/
def pLine : List UInt8 → Except Nat (List UInt8 × List UInt8)
  | [] => .error 8
  | c :: r => if hasLE (c :: r) then .ok ([], r.tail) else match pLine r with
    | .error e => .error e
    | .ok (x, q) => .ok (c :: x, q)
def ahead (p : List UInt8) : Except Nat (List UInt8 × List UInt8) → Except Nat (List UInt8 × List UInt8)
  | .error e => .error e
  | .ok (x, q) => .ok (p ++ x, q)
theorem ahead_nil (r : Except Nat (List UInt8 × List UInt8)) : ahead [] r = r := by
  cases r with
  | error e => rfl
  | ok p => rfl
theorem pLine_hit {l : List UInt8} (h : hasLE l = true) : pLine l = .ok ([], l.drop 2) := by
  cases l with
  | nil => simp [hasLE] at h
  | cons c r => rw [pLine, if_pos h]; cases r <;> rfl
theorem pLine_miss {c : UInt8} {r : List UInt8} (p : List UInt8) (h : hasLE (c :: r) = false) : ahead p (pLine (c :: r)) = ahead (p ++ [c]) (pLine r) := by
  rw [pLine, if_neg (by rw [h]; decide)]
  cases pLine r with
  | error e => rfl
  | ok y => simp [ahead]

set_option maxHeartbeats 400000 in
theorem lineFound_any (s : ByteArray) (w : World) :
    Calls Tryd.prog 70 #[.string s] w fun e w' => e = .returned (.bool (hasLE s.data.toList)) ∧ w' = w := by
  go_enter Tryd.func70, Tryd.ntmps70
  go_wp2_with (go_at_call 71; refine (Tryd.strings_HasPrefix _ _ _).mono ?_; rintro e w' ⟨rfl, rfl⟩)
  go_ret
  refine ⟨?_, rfl⟩
  rw [← hasLE_eq]
  rfl

theorem slice_at {s : ByteArray} {l : List UInt8} (h : l <:+ s.data.toList) (k : Nat) (hk : k ≤ l.length) (W : World) :
    (Instr.slice 9 (.string s) (some (.int .i64 (((s.size - l.length : Nat) : Int) + (k : Int)))) none none).run Tryd.prog W = .ok (.string ⟨(l.drop k).toArray⟩) W := by
  have hl : l.length ≤ s.size := by rw [← size_list]; exact h.length_le
  rw [run_slice_string_from_if (P := Tryd.prog) W 9 s .i64 _ Tryd.underlying9, if_pos (by omega)]
  have e : (((s.size - l.length : Nat) : Int) + (k : Int)).toNat = s.size - l.length + k := by omega
  have e2 : s.size - l.length + k = s.size - (l.drop k).length := by rw [List.length_drop]; omega
  rw [e, e2, extract_suffix_all ((List.drop_suffix k l).trans h)]

set_option maxRecDepth 100000 in
set_option maxHeartbeats 1000000 in
theorem till_any (b : Nat) (s : ByteArray) (l : List UInt8) (w : World) (h : AtL b s l w) (hs : s.size ≤ 281474976710656) :
    Calls Tryd.prog 69 #[.pointer (some ⟨b, 0, none⟩), .func (.func 70) #[] #[]] w fun e w' => Kept (one b) w w' ∧
      (∀ x q, pLine l = .ok (x, q) → e = .returned (.string ⟨x.toArray⟩) ∧ AtL b s (13 :: 10 :: q) w') ∧ (∀ n, pLine l = .error n → e = .panicked [{ v := .iface 66 (.agg #[.int .i64 (n)]), recovered := false }]) := by
  have hl := h.len
  obtain ⟨h0, h1, h2, h3, h4⟩ := h.1
  unfold maxLen at h4
  have HA := hide h
  have hsl := slice_at (s := s) h.2
  clear h
  have e1 : s.size ≤ (s.size - l.length) + l.length := by omega
  have e2 : (s.size - l.length) + l.length ≤ s.size := by omega
  go_enter Tryd.func69, Tryd.ntmps69
  go_wp2
  go_loopw [5] (fun i wr => ∃ k m : Nat, k ≤ l.length ∧ i = .int .i64 k ∧ wr = w.drewN m ∧ Hid (pLine l = ahead (l.take k) (pLine (l.drop k)))) (fun i _ => l.length + 1 - (intOf i).toNat)
  case atStart => exact ⟨0, 0, Nat.zero_le _, rfl, rfl, by rw [List.take_zero, List.drop_zero, ahead_nil]; rfl⟩
  case round =>
    obtain ⟨k, m, hk, rfl, rfl, HP⟩ := hrel
    have hsk := hsl k hk
    have HSL := hide hsl
    clear hsl
    cases hf : hasLE (l.drop k) with
    | true =>
      have hfd : hasLE (ByteArray.mk (l.drop k).toArray).data.toList = true := by rw [toList_mk]; exact hf
      have hcall : ∀ W : World, Calls Tryd.prog 70 #[.string ⟨(l.drop k).toArray⟩] W fun e w' => e = .returned (.bool true) ∧ w' = W := fun W => by
        have := lineFound_any ⟨(l.drop k).toArray⟩ W
        rw [hfd] at this
        exact this
      have HC := hide hcall
      have HF := hide hf
      clear hcall hfd hf
      generalize hW : w.drewN m = W at *
      have c0 : W.cell? ⟨b, 0, none⟩ = some (.string s) := by rw [← hW]; exact h0
      have c1 : W.cell? ⟨b, 1, none⟩ = some (.int .i64 ((s.size - l.length : Nat) : Int)) := by rw [← hW]; exact h1
      have HWW := hide hW
      clear hW h0 h1 h2 h3
      generalize s.size - l.length = at0 at *
      generalize ByteArray.mk (l.drop k).toArray = sk at *
      go_wp2
      go_quiet ((go_at_call 70; exact Calls.quiet_of_same (HC.out _)))
      go_wp2_with fail
      have hA2 : AtL b s l (W.drewN nq) := by rw [← HWW.out]; exact (HA.out.drewN m).drewN nq
      refine (take_ok b s l k _ hA2 hk hs).mono ?_
      rintro e w2 ⟨rfl, ha2, hk2⟩
      have hdk : ∃ q, l.drop k = 13 :: 10 :: q ∧ pLine l = .ok (l.take k, q) := by
        have h5 := hasLE_must HF.out
        have h6 := HP.out
        rw [pLine_hit HF.out] at h6
        have h7 := HF.out
        match hd : l.drop k, h7 with
        | [], h7 => simp [hasLE] at h7
        | [a], h7 => simp [hasLE] at h7
        | a :: c :: r, h7 =>
          unfold hasLE at h7
          split at h7
          · rename_i e
            simp at e
            obtain ⟨rfl, rfl, rfl⟩ := e
            refine ⟨r, rfl, ?_⟩
            rw [h6, hd]
            simp [ahead]
          · simp at h7
      obtain ⟨q, hq, hp⟩ := hdk
      rw [hq] at ha2
      have hkw : Kept (one b) w (W.drewN nq) := by rw [← HWW.out]; exact ((Kept.refl _ w).drewN m).drewN nq
      have HPP := hide hp
      clear hp hq hA2
      go_wp2
      go_ret
      refine ⟨hkw.trans hk2, fun x q' hx => ?_, fun n hx => ?_⟩
      · rw [HPP.out] at hx
        simp at hx
        obtain ⟨rfl, rfl⟩ := hx
        exact ⟨rfl, ha2⟩
      · rw [HPP.out] at hx
        simp at hx
    | false =>
      have hfd : hasLE (ByteArray.mk (l.drop k).toArray).data.toList = false := by rw [toList_mk]; exact hf
      have hcall : ∀ W : World, Calls Tryd.prog 70 #[.string ⟨(l.drop k).toArray⟩] W fun e w' => e = .returned (.bool false) ∧ w' = W := fun W => by
        have := lineFound_any ⟨(l.drop k).toArray⟩ W
        rw [hfd] at this
        exact this
      have HC := hide hcall
      have HF := hide hf
      have hfin : Hid (∀ n, ∃ m', (w.drewN m).drewN n = w.drewN m') := fun n => ⟨m + n, World.drewN_drewN _ _ _⟩
      clear hcall hfd hf
      generalize hW : w.drewN m = W at *
      have c0 : W.cell? ⟨b, 0, none⟩ = some (.string s) := by rw [← hW]; exact h0
      have c1 : W.cell? ⟨b, 1, none⟩ = some (.int .i64 ((s.size - l.length : Nat) : Int)) := by rw [← hW]; exact h1
      have HWW := hide hW
      have HH0 := hide h0
      have HH1 := hide h1
      clear hW h0 h1 h2 h3
      by_cases hend : k = l.length
      · have HP2 : Hid (pLine l = .error 8) := by
          rw [HP.out, hend, List.drop_length]
          rfl
        have htest : ((((s.size - l.length : Nat) : Int) + (k : Int)) == s.size) = true := by rw [beq_iff_eq]; omega
        clear hend
        generalize s.size - l.length = at0 at *
        generalize ByteArray.mk (l.drop k).toArray = sk at *
        go_wp2
        go_quiet ((go_at_call 70; exact Calls.quiet_of_same (HC.out _)))
        go_wp2_with fail
        go_quiet (fail)
        go_wp2_with (go_at_call 43; refine (giveUp_any _ _).mono ?_; rintro e w' ⟨rfl, rfl⟩)
        refine ⟨rfl, ?_, fun x q' hx => by rw [HP2.out] at hx; simp at hx, fun n hx => by rw [HP2.out] at hx; simp at hx; subst hx; rfl⟩
        rw [← HWW.out]
        exact ⟨rfl, rfl, rfl, Nat.le_refl _, fun _ _ _ => rfl⟩
      · have hlt : k < l.length := by omega
        have HP2 : Hid (pLine l = ahead (l.take (k + 1)) (pLine (l.drop (k + 1)))) := by
          have h5 : l.drop k = l[k] :: l.drop (k + 1) := List.drop_eq_getElem_cons hlt
          have h6 := HF.out
          rw [h5] at h6
          rw [HP.out, h5, pLine_miss _ h6, List.take_succ_eq_append_getElem hlt]
          rfl
        have htest : ((((s.size - l.length : Nat) : Int) + (k : Int)) == s.size) = false := by rw [beq_eq_false_iff_ne]; omega
        clear hend
        generalize s.size - l.length = at0 at *
        generalize ByteArray.mk (l.drop k).toArray = sk at *
        go_wp2
        go_quiet ((go_at_call 70; exact Calls.quiet_of_same (HC.out _)))
        go_wp2_with fail
        go_quiet (fail)
        go_wp2
        go_roundw
        case rel =>
          exact (hfin.out _).elim fun m' hm' => ⟨k + 1, m', by omega, by go_num, hm', HP2⟩
        case measure => simp [intOf]; omega

theorem line_must (q : List UInt8) : pMust [13, 10] (13 :: 10 :: q) = .ok q := by simp [pMust]

set_option maxRecDepth 100000 in
set_option maxHeartbeats 1000000 in
theorem line_any (b : Nat) (s : ByteArray) (l : List UInt8) (w : World) (h : AtL b s l w) (hs : s.size ≤ 281474976710656) :
    Calls Tryd.prog 58 #[.pointer (some ⟨b, 0, none⟩)] w fun e w' => Kept (one b) w w' ∧
      (∀ x q, pLine l = .ok (x, q) → e = .returned (.string ⟨x.toArray⟩) ∧ AtL b s q w') ∧ (∀ n, pLine l = .error n → e = .panicked [{ v := .iface 66 (.agg #[.int .i64 (n)]), recovered := false }]) := by
  have HT := hide (till_any b s l w h hs)
  cases hp : pLine l with
  | error x =>
    go_enter Tryd.func58, Tryd.ntmps58
    go_wp2_with (go_at_call 69; refine HT.out.mono ?_; rintro e w1 ⟨hk1, _, he1⟩; rw [he1 x hp])
    exact ⟨rfl, hk1, fun x q hx => by simp at hx, fun n hx => by simp at hx; subst hx; rfl⟩
  | ok y =>
    obtain ⟨x, q⟩ := y
    go_enter Tryd.func58, Tryd.ntmps58
    go_wp2_with (go_at_call 69; refine HT.out.mono ?_; rintro e w1 ⟨hk1, he1, _⟩; obtain ⟨rfl, ha1⟩ := he1 x q hp)
    refine (must2_ok b s _ q w1 ha1 (line_must q)).mono ?_
    rintro e w2 ⟨rfl, ha2, hk2⟩
    go_wp2
    go_ret
    refine ⟨hk1.trans hk2, fun x' q' hx => ?_, fun n hx => by simp at hx⟩
    simp at hx
    obtain ⟨rfl, rfl⟩ := hx
    exact ⟨rfl, ha2⟩
theorem line_ok (b : Nat) (s : ByteArray) (l x q : List UInt8) (w : World) (h : AtL b s l w) (hs : s.size ≤ 281474976710656) (hp : pLine l = .ok (x, q)) :
    Calls Tryd.prog 58 #[.pointer (some ⟨b, 0, none⟩)] w fun e w' => e = .returned (.string ⟨x.toArray⟩) ∧ AtL b s q w' ∧ Kept (one b) w w' :=
  (line_any b s l w h hs).mono fun _ _ ⟨h1, h2, _⟩ => ⟨(h2 x q hp).1, (h2 x q hp).2, h1⟩
theorem line_err (b : Nat) (s : ByteArray) (l : List UInt8) (n : Nat) (w : World) (h : AtL b s l w) (hs : s.size ≤ 281474976710656) (hp : pLine l = .error n) :
    Calls Tryd.prog 58 #[.pointer (some ⟨b, 0, none⟩)] w fun e w' => e = .panicked [{ v := .iface 66 (.agg #[.int .i64 (n)]), recovered := false }] ∧ Kept (one b) w w' :=
  (line_any b s l w h hs).mono fun _ _ ⟨h1, _, h2⟩ => ⟨h2 n hp, h1⟩

theorem pLine_len : ∀ (l x q : List UInt8), pLine l = .ok (x, q) → l.length = x.length + 2 + q.length ∧ q <:+ l
  | [], x, q, h => by simp [pLine] at h
  | c :: r, x, q, h => by
    rw [pLine] at h
    split at h
    · rename_i hl
      simp at h
      obtain ⟨rfl, rfl⟩ := h
      have h5 := pMust_suffix2 hl
      exact h5
    · split at h
      · simp at h
      · rename_i y q' hr
        simp at h
        obtain ⟨rfl, rfl⟩ := h
        obtain ⟨h1, h2⟩ := pLine_len r y q' hr
        exact ⟨by simp only [List.length_cons]; omega, h2.trans (List.suffix_cons _ _)⟩
end Go.Proofs.YtolpmaapdkhigaaDoor
