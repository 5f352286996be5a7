/- WALK of many out of bytes: s. -/
import Derived.Test.YtolpmaapdkhigabIDec3
import Derived.Laws.OwnMore
import Derived.Handy
namespace Go.Proofs.Ytolpmaapdkhigab
open Go.RowKit

theorem info_s : (Try.prog.info? 61).map (fun i => (i.zero, i.size, i.bytes)) = some (some (.agg #[.int .i64 0, .string ⟨#[]⟩]), 2, 24) := by kernel_rfl
set_option maxRecDepth 100000 in
set_option maxHeartbeats 2000000 in
theorem each_s (b : Nat) (s : ByteArray) (l : List UInt8) (w : World) (h : AtL b s l w) (hs : s.size ≤ 281474976710656) :
    Calls Try.prog 58 #[.pointer (some ⟨b, 0, none⟩), .func (.func 59) #[] #[]] w fun e w' => Kept (one b) w w' ∧ (pEach pscore l = none → e = .panicked [{ v := .iface 92 (.agg #[.int .i64 (8)]), recovered := false }]) ∧ ∀ xs r, pEach pscore l = some (xs, r) → AtL b s r w' ∧ ∃ v, e = .returned v ∧ w'.ownsRow w.heap.size 61 2 v xs.length (rowS xs) := by
  obtain ⟨i0, hi, hz0, hz1, hz2⟩ := info_parts info_s
  have hbl := h.lt
  cases l with
  | nil =>
    have HN := hide (next_short b s w h)
    clear h
    go_enter Try.func58, Try.ntmps58
    go_wp2_with fail
    refine HN.out.mono ?_
    rintro e w1 ⟨rfl, hk1⟩
    exact ⟨rfl, hk1, fun _ => rfl, fun xs r hx => by cases hx⟩
  | cons c q =>
    have HN := hide (next_ok b s c q w h)
    have hc := byte_lt c
    have hc' : ((c.toNat : Nat) : Int) ≤ 255 := by omega
    clear h
    show Calls _ _ _ _ fun e w' => Kept (one b) w w' ∧ (pTo pscore q c.toNat = none → e = .panicked [{ v := .iface 92 (.agg #[.int .i64 (8)]), recovered := false }]) ∧ ∀ xs r, pTo pscore q c.toNat = some (xs, r) → AtL b s r w' ∧ ∃ v, e = .returned v ∧ w'.ownsRow w.heap.size 61 2 v xs.length (rowS xs)
    generalize hcn : c.toNat = n at *
    clear hcn
    go_enter Try.func58, Try.ntmps58
    go_wp2_with fail
    refine HN.out.mono ?_
    rintro e w1 ⟨rfl, h1, hk1⟩
    have H1 := hide h1
    clear h1
    go_wp2_with fail
    go_loopw [5, 8] (fun v i wr => ∃ (k : Nat) (xs : List (Int × ByteArray)) (r : List UInt8), k ≤ n ∧ i = .int .u8 k ∧ Hid (pTo pscore q k = some (xs, r)) ∧ wr.ownsRow w.heap.size 61 2 v k (rowS xs) ∧ AtL b s r wr ∧ Kept (one b) w wr) (fun _ i _ => n - (intOf i).toNat)
    case atStart => exact ⟨0, [], q, by omega, rfl, rfl, World.ownsRow_nil _ _ _ _, H1.out, hk1⟩
    case round =>
      obtain ⟨k, xs, r, hk, rfl, HP, hown, hA, hK⟩ := hrel
      have hzr := hK.size
      clear H1 HN hk1
      by_cases hlt : k < n
      · have hlt' : ((k : Nat) : Int) < ((n : Nat) : Int) := by omega
        have HD := hide (score_any b s r wr hA hs)
        cases hp : pscore r with
        | none =>
          have HE : Hid (pTo pscore q n = none) := pTo_none (k := k + 1) (by rw [pTo, HP.out]; simp [hp]) n (by omega)
          rw [hp] at HD
          clear hp hA
          go_wp2_with fail
          refine HD.out.mono ?_
          rintro e w2 ⟨hk2, he, -⟩
          obtain rfl := he (by first | rfl | trivial)
          refine ⟨rfl, hK.trans hk2, fun _ => rfl, fun xs' r' hx => ?_⟩
          rw [HE.out] at hx
          cases hx
        | some y =>
          obtain ⟨y1, r2⟩ := y
          have HE : Hid (pTo pscore q (k + 1) = some (xs ++ [y1], r2)) := by rw [Hid, pTo, HP.out]; simp [hp]
          have hal := pTo_len HP.out
          rw [hp] at HD
          clear hp hA
          go_wp2_with fail
          refine HD.out.mono ?_
          rintro e w2 ⟨hk2, -, he⟩
          obtain ⟨rfl, hA2⟩ := he y1 r2 rfl
          have A2 := hide hA2
          have hz2' := hk2.size
          have hbr : b < wr.heap.size := Nat.lt_of_lt_of_le hbl hzr
          have hown2 : w2.ownsRow w.heap.size 61 2 _ k (rowS xs) := hk2.owns hown (fun j hj e => by have := (hown.lt j hj).1; simp only [one] at e; omega)
          clear hA2 he HD hown
          go_wp2_with (at_builtin; refine wpList_append_own _ rfl _ _ 29 rfl w.heap.size 61 i0 (.agg #[.int .i64 0, .string ⟨#[]⟩]) 2 24 Try.underlying29 hi hz0 hz1 hz2 rfl (by decide) _ _ _ rfl (hown2.alloc _) ⟨w2.heap.size, 0, none⟩ 1 1 [.int .i64 y1.1, .string y1.2] rfl rfl ?c1 ?c2 ?c3 ?c4 ?c5 ?_)
          case c1 =>
            intro j u hj
            match j, hj with
            | 0, hj => simp at hj; subst hj; simp [Addr.add]
            | 1, hj => simp at hj; subst hj; simp [Addr.add]
            | _ + 2, hj => simp at hj
          case c2 => intro u hu; simp at hu; rcases hu with rfl | rfl <;> rfl
          case c3 => unfold maxLen; omega
          case c4 => omega
          case c5 => simp; omega
          intro v' w4 hown4 hgrow _
          have K4 : Kept (one b) w w4 := ((hK.trans hk2).alloc _).grown hgrow (fun j hj => .inr (hown2.lt j hj).1)
          have A4 : AtL b s r2 w4 := (A2.out.alloc _).kept (S := fun j => w.heap.size ≤ j) ((Kept.refl _ _).grown hgrow (fun j hj => .inl (hown2.lt j hj).1)) (by omega)
          have hown5 : w4.ownsRow w.heap.size 61 2 v' (k + 1) (rowS (xs ++ [y1])) := by simpa [rowS] using hown4
          clear A2 hown4 hgrow
          go_wp2_with fail
          go_roundw
          case rel => exact ⟨k + 1, xs ++ [y1], r2, by omega, by go_num, HE, hown5, A4, K4⟩
          case measure => simp [intOf]; omega
      · have hge : ¬ ((k : Nat) : Int) < ((n : Nat) : Int) := by omega
        obtain rfl : k = n := by omega
        have hal := pTo_len HP.out
        have HA := hide hA
        clear hA
        go_wp2_with fail
        go_ret
        refine ⟨hK, fun hx => ?_, fun xs' r' hx => ?_⟩
        · rw [HP.out] at hx; cases hx
        · rw [HP.out] at hx
          injection hx with hx
          injection hx with e1 e2
          subst e1 e2
          rw [hal]
          exact ⟨HA.out, _, rfl, hown⟩
end Go.Proofs.Ytolpmaapdkhigab
