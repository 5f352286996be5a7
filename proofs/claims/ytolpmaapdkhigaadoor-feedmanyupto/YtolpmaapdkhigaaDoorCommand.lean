/- WALKS of command. -/
import Derived.Test.YtolpmaapdkhigaaDoorCount
namespace Go.Proofs.YtolpmaapdkhigaaDoor
open Go.RowKit

/-- one word of a command, as a plain function -/
def pWord (l : List UInt8) : Except Nat (List UInt8 × List UInt8) :=
  match pMust [36] l with
  | .error e => .error e
  | .ok l1 => match pCount 0 60 l1 with
    | .error e => .error e
    | .ok (m, l2) => if l2.length < m then .error 8 else match pMust [13, 10] (l2.drop m) with
      | .error e => .error e
      | .ok l3 => .ok (l2.take m, l3)
def pWords : Nat → List UInt8 → Except Nat (List (List UInt8) × List UInt8)
  | 0, l => .ok ([], l)
  | n + 1, l => match pWord l with
    | .error e => .error e
    | .ok (x, l1) => match pWords n l1 with
      | .error e => .error e
      | .ok (xs, l2) => .ok (x :: xs, l2)
def pCommand (l : List UInt8) : Except Nat (List (List UInt8) × List UInt8) :=
  match pMust [42] l with
  | .error e => .error e
  | .ok l1 => match pCount 1 12 l1 with
    | .error e => .error e
    | .ok (n, l2) => pWords n l2

/-- what is left to do, behind acc -/
def behind (acc : List (List UInt8)) : Except Nat (List (List UInt8) × List UInt8) → Except Nat (List (List UInt8) × List UInt8)
  | .error e => .error e
  | .ok (xs, r) => .ok (acc ++ xs, r)

theorem pTail_le {most : Nat} : ∀ (l : List UInt8) (n k : Nat) (r : List UInt8), n ≤ most → pTail most n l = .ok (k, r) → k ≤ most := by
  intro l
  induction l with
  | nil => intro n k r _ h; simp [pTail] at h
  | cons c l ih =>
    intro n k r hn h
    simp only [pTail] at h
    split at h
    · split at h
      · split at h
        · simp at h; omega
        · simp at h
      · split at h
        · simp at h
        · exact ih _ _ _ (by omega) h
    · simp at h
theorem pCount_le {least most : Nat} (h9 : 9 ≤ most) {l : List UInt8} {k : Nat} {r : List UInt8} (h : pCount least most l = .ok (k, r)) : k ≤ most := by
  cases l with
  | nil => simp [pCount] at h
  | cons c l =>
    simp only [pCount] at h
    split at h
    · rename_i hd
      have := (isDig_iff c).1 hd
      split at h
      · simp at h
      · exact pTail_le _ _ _ _ (by omega) h
    · simp at h

def str (x : List UInt8) : Value := .string ⟨x.toArray⟩

theorem info9 : (Tryd.prog.info? 9).map (fun i => (i.zero, i.size, i.bytes)) = some (some (.string ⟨#[]⟩), 1, 16) := by kernel_rfl

set_option maxRecDepth 100000 in
set_option maxHeartbeats 1000000 in
theorem command_any (b : Nat) (s : ByteArray) (l : List UInt8) (w : World) (h : AtL b s l w) (hs : s.size ≤ 281474976710656) :
    Calls Tryd.prog 33 #[.pointer (some ⟨b, 0, none⟩)] w fun e w' => Kept (one b) w w' ∧
      (∀ ws r, pCommand l = .ok (ws, r) → ∃ v, e = .returned v ∧ w'.ownsRow w.heap.size 9 1 v ws.length (ws.map str) ∧ AtL b s r w') ∧ (∀ n, pCommand l = .error n → e = .panicked [{ v := .iface 66 (.agg #[.int .i64 (n)]), recovered := false }]) := by
  cases hp1 : pMust [42] l with
  | error x =>
    have HP : Hid (pCommand l = .error x) := by simp only [Hid, pCommand, hp1]
    go_enter Tryd.func33, Tryd.ntmps33
    go_wp2_with (go_at_call 51; refine (must1_err 42 42 (by rfl) b s l x w h hp1).mono ?_; rintro e w' ⟨rfl, hk⟩)
    exact ⟨rfl, hk, fun n r hr => by rw [HP.out] at hr; simp at hr, fun n hr => by rw [HP.out] at hr; simp at hr; subst hr; rfl⟩
  | ok l1 =>
    cases hp2 : pCount 1 12 l1 with
    | error x =>
      have HP : Hid (pCommand l = .error x) := by simp only [Hid, pCommand, hp1, hp2]
      go_enter Tryd.func33, Tryd.ntmps33
      go_wp2_with (go_at_call 51; refine (must1_ok 42 42 (by rfl) b s l l1 w h hp1).mono ?_; rintro e w1 ⟨rfl, ha1, hk1⟩)
      refine (count_err 1 12 b s l1 x w1 ha1 (by omega) (by omega) hp2).mono ?_
      rintro e w2 ⟨rfl, hk2⟩
      exact ⟨rfl, hk1.trans hk2, fun n r hr => by rw [HP.out] at hr; simp at hr, fun n hr => by rw [HP.out] at hr; simp at hr; subst hr; rfl⟩
    | ok nr =>
      obtain ⟨n, l2⟩ := nr
      have hn := pCount_le (by omega) hp2
      have HP : Hid (pCommand l = pWords n l2) := by simp only [Hid, pCommand, hp1, hp2]
      obtain ⟨i0, hi, hz0, hz1, hz2⟩ := info_parts info9
      go_enter Tryd.func33, Tryd.ntmps33
      go_wp2_with (go_at_call 51; refine (must1_ok 42 42 (by rfl) b s l l1 w h hp1).mono ?_; rintro e w1 ⟨rfl, ha1, hk1⟩)
      refine (count_ok 1 12 b s l1 n l2 w1 ha1 (by omega) (by omega) hp2).mono ?_
      rintro e w2 ⟨rfl, ha2, hk2⟩
      have hk12 := hk1.trans hk2
      have hbw : b < w.heap.size := h.lt
      clear hp1 hp2 ha1 hk1 hk2 h
      go_wp2_with fail
      go_loopw [3, 9] (fun v i wr => ∃ (k : Nat) (acc : List (List UInt8)) (q : List UInt8), k ≤ n ∧ i = .int .i64 k ∧ acc.length = k ∧ wr.ownsRow w.heap.size 9 1 v k (acc.map str) ∧ AtL b s q wr ∧ Kept (one b) w wr ∧
          Hid (pCommand l = behind acc (pWords (n - k) q))) (fun _ i _ => n - (intOf i).toNat)
      case atStart => exact ⟨0, [], l2, Nat.zero_le _, rfl, rfl, World.ownsRow_nil _ _ _ _, ha2, hk12, by rw [Hid, HP.out, Nat.sub_zero]; cases pWords n l2 with | error => rfl | ok p => rfl⟩
      case round =>
        clear HP ha2 hk12
        obtain ⟨k, acc, q, hk, rfl, hacc, hown, hq, hkq, HP⟩ := hrel
        by_cases hlt : k < n
        · cases hp1 : pMust [36] q with
          | error x =>
            go_wp2_with (go_at_call 51; refine (must1_err 36 36 (by rfl) b s q x wr hq hp1).mono ?_; rintro e w' ⟨rfl, hk⟩)
            have HP2 : Hid (pCommand l = .error x) := by
              rw [HP.out, show n - k = (n - k - 1) + 1 from by omega]; simp only [Hid, pWords, pWord, hp1, behind]
            exact ⟨rfl, hkq.trans hk, fun n r hr => by rw [HP2.out] at hr; simp at hr, fun n hr => by rw [HP2.out] at hr; simp at hr; subst hr; rfl⟩
          | ok q1 =>
            cases hp2 : pCount 0 60 q1 with
            | error x =>
              have HP2 : Hid (pCommand l = .error x) := by
                rw [HP.out, show n - k = (n - k - 1) + 1 from by omega]; simp only [Hid, pWords, pWord, hp1, hp2, behind]
              clear HP
              go_wp2_with (go_at_call 51; refine (must1_ok 36 36 (by rfl) b s q q1 wr hq hp1).mono ?_; rintro e w1 ⟨rfl, ha1, hk1⟩)
              refine (count_err 0 60 b s q1 x w1 ha1 (by omega) (by omega) hp2).mono ?_
              rintro e w2 ⟨rfl, hk2⟩
              exact ⟨rfl, (hkq.trans hk1).trans hk2, fun n r hr => by rw [HP2.out] at hr; simp at hr, fun n hr => by rw [HP2.out] at hr; simp at hr; subst hr; rfl⟩
            | ok mr =>
              obtain ⟨m, q2⟩ := mr
              have hm := pCount_le (by omega) hp2
              by_cases hsh : q2.length < m
              · have HP2 : Hid (pCommand l = .error 8) := by
                  rw [HP.out, show n - k = (n - k - 1) + 1 from by omega]; simp only [Hid, pWords, pWord, hp1, hp2, if_pos hsh, behind]
                clear HP
                go_wp2_with (go_at_call 51; refine (must1_ok 36 36 (by rfl) b s q q1 wr hq hp1).mono ?_; rintro e w1 ⟨rfl, ha1, hk1⟩)
                refine (count_ok 0 60 b s q1 m q2 w1 ha1 (by omega) (by omega) hp2).mono ?_
                rintro e w2 ⟨rfl, ha2, hk2⟩
                go_wp2_with fail
                refine (take_err b s q2 m w2 ha2 hsh (by omega)).mono ?_
                rintro e w3 ⟨rfl, hk3⟩
                exact ⟨rfl, ((hkq.trans hk1).trans hk2).trans hk3, fun n r hr => by rw [HP2.out] at hr; simp at hr, fun n hr => by rw [HP2.out] at hr; simp at hr; subst hr; rfl⟩
              · cases hp3 : pMust [13, 10] (q2.drop m) with
                | error x =>
                  have HP2 : Hid (pCommand l = .error x) := by
                    rw [HP.out, show n - k = (n - k - 1) + 1 from by omega]; simp only [Hid, pWords, pWord, hp1, hp2, if_neg hsh, hp3, behind]
                  clear HP
                  go_wp2_with (go_at_call 51; refine (must1_ok 36 36 (by rfl) b s q q1 wr hq hp1).mono ?_; rintro e w1 ⟨rfl, ha1, hk1⟩)
                  refine (count_ok 0 60 b s q1 m q2 w1 ha1 (by omega) (by omega) hp2).mono ?_
                  rintro e w2 ⟨rfl, ha2, hk2⟩
                  go_wp2_with fail
                  refine (take_ok b s q2 m w2 ha2 (by omega) hs).mono ?_
                  rintro e w3 ⟨rfl, ha3, hk3⟩
                  have hown3 := ((hk1.trans hk2).trans hk3).owns hown (fun j hj => fun e => by have := hown.lt j hj; simp only [one] at e; omega)
                  have hkw3 : Kept (one b) w w3 := hkq.trans ((hk1.trans hk2).trans hk3)
                  have hsz3 := hkw3.size
                  go_wp2_with (at_builtin; refine wpList_append_own _ rfl _ _ 42 rfl w.heap.size 9 i0 (.string ⟨#[]⟩) 1 16 Tryd.underlying42 hi hz0 hz1 hz2 rfl (by decide) _ _ _ rfl (hown3.alloc _) ⟨w3.heap.size, 0, none⟩ 1 1 [str (q2.take m)] rfl rfl ?c1 ?c2 ?c3 ?c4 ?c5 ?_)
                  case c1 =>
                    intro j u hj
                    match j, hj with
                    | 0, hj => simp at hj; subst hj; simp [Addr.add, str]
                  case c2 => intro u hu; simp at hu; subst hu; rfl
                  case c3 => unfold maxLen; omega
                  case c4 => omega
                  case c5 => simp; omega
                  intro v' w4 hown4 hgrow _
                  have hk4 : Kept (one b) w w4 := (hkw3.alloc _).grown hgrow (fun j hj => .inr (hown.lt j hj).1)
                  have ha4 : AtL b s (q2.drop m) w4 := (ha3.alloc (.cells #[.string ⟨(q2.take m).toArray⟩] 9)).kept (S := fun j => some j = Value.ownBlock _) ⟨hgrow.os, hgrow.tape, hgrow.output, hgrow.size, fun j hj hs => hgrow.block j hj hs⟩ (fun e => by have := hown.lt b e.symm; omega)
                  clear hown3 hgrow hkw3 ha3 hk3 hk2 hk1 ha2 ha1 hown hkq hq
                  go_wp2_with (go_at_call 51; refine (must2_err b s _ x w4 ha4 hp3).mono ?_; rintro e w5 ⟨rfl, hk5⟩)
                  exact ⟨rfl, hk4.trans hk5, fun n r hr => by rw [HP2.out] at hr; simp at hr, fun n hr => by rw [HP2.out] at hr; simp at hr; subst hr; rfl⟩
                | ok q3 =>
                  have HP2 : Hid (pCommand l = behind (acc ++ [q2.take m]) (pWords (n - (k + 1)) q3)) := by
                    rw [HP.out, show n - k = (n - (k + 1)) + 1 from by omega]
                    simp only [Hid, pWords, pWord, hp1, hp2, if_neg hsh, hp3]
                    cases pWords (n - (k + 1)) q3 with
                    | error => rfl
                    | ok p => simp [behind]
                  clear HP
                  go_wp2_with (go_at_call 51; refine (must1_ok 36 36 (by rfl) b s q q1 wr hq hp1).mono ?_; rintro e w1 ⟨rfl, ha1, hk1⟩)
                  refine (count_ok 0 60 b s q1 m q2 w1 ha1 (by omega) (by omega) hp2).mono ?_
                  rintro e w2 ⟨rfl, ha2, hk2⟩
                  go_wp2_with fail
                  refine (take_ok b s q2 m w2 ha2 (by omega) hs).mono ?_
                  rintro e w3 ⟨rfl, ha3, hk3⟩
                  have hown3 := ((hk1.trans hk2).trans hk3).owns hown (fun j hj => fun e => by have := hown.lt j hj; simp only [one] at e; omega)
                  have hkw3 : Kept (one b) w w3 := hkq.trans ((hk1.trans hk2).trans hk3)
                  have hsz3 := hkw3.size
                  go_wp2_with (at_builtin; refine wpList_append_own _ rfl _ _ 42 rfl w.heap.size 9 i0 (.string ⟨#[]⟩) 1 16 Tryd.underlying42 hi hz0 hz1 hz2 rfl (by decide) _ _ _ rfl (hown3.alloc _) ⟨w3.heap.size, 0, none⟩ 1 1 [str (q2.take m)] rfl rfl ?c1 ?c2 ?c3 ?c4 ?c5 ?_)
                  case c1 =>
                    intro j u hj
                    match j, hj with
                    | 0, hj => simp at hj; subst hj; simp [Addr.add, str]
                  case c2 => intro u hu; simp at hu; subst hu; rfl
                  case c3 => unfold maxLen; omega
                  case c4 => omega
                  case c5 => simp; omega
                  intro v' w4 hown4 hgrow _
                  have hk4 : Kept (one b) w w4 := (hkw3.alloc _).grown hgrow (fun j hj => .inr (hown.lt j hj).1)
                  have ha4 : AtL b s (q2.drop m) w4 := (ha3.alloc (.cells #[.string ⟨(q2.take m).toArray⟩] 9)).kept (S := fun j => some j = Value.ownBlock _) ⟨hgrow.os, hgrow.tape, hgrow.output, hgrow.size, fun j hj hs => hgrow.block j hj hs⟩ (fun e => by have := hown.lt b e.symm; omega)
                  clear hown3 hgrow hkw3 ha3 hk3 hk2 hk1 ha2 ha1 hown hkq hq
                  go_wp2_with (go_at_call 51; refine (must2_ok b s _ q3 w4 ha4 hp3).mono ?_; rintro e w5 ⟨rfl, ha5, hk5⟩)
                  go_roundw
                  case rel =>
                    refine ⟨k + 1, acc ++ [q2.take m], q3, by omega, by go_num, by simp [hacc], ?_, ha5, hk4.trans hk5, HP2⟩
                    rw [List.map_append]
                    exact hk5.owns hown4 (fun j hj => fun e => by have := hown4.lt j hj; simp only [one] at e; omega)
                  case measure => simp [intOf]; omega
        · have hkk : k = n := by omega
          subst hkk
          go_wp2
          go_ret
          refine ⟨hkq, fun ws r hr => ?_, fun n hr => ?_⟩
          · rw [HP.out, Nat.sub_self] at hr
            simp [pWords, behind] at hr
            obtain ⟨rfl, rfl⟩ := hr
            exact ⟨_, rfl, by rw [hacc]; exact hown, hq⟩
          · rw [HP.out, Nat.sub_self] at hr
            simp [pWords, behind] at hr

theorem command_ok (b : Nat) (s : ByteArray) (l : List UInt8) (ws : List (List UInt8)) (r : List UInt8) (w : World) (h : AtL b s l w) (hs : s.size ≤ 281474976710656) (hp : pCommand l = .ok (ws, r)) :
    Calls Tryd.prog 33 #[.pointer (some ⟨b, 0, none⟩)] w fun e w' => ∃ v, e = .returned v ∧ w'.ownsRow w.heap.size 9 1 v ws.length (ws.map str) ∧ AtL b s r w' ∧ Kept (one b) w w' :=
  (command_any b s l w h hs).mono fun _ _ ⟨h1, h2, _⟩ => by
    obtain ⟨v, h3, h4, h5⟩ := h2 ws r hp
    exact ⟨v, h3, h4, h5, h1⟩
theorem command_err (b : Nat) (s : ByteArray) (l : List UInt8) (n : Nat) (w : World) (h : AtL b s l w) (hs : s.size ≤ 281474976710656) (hp : pCommand l = .error n) :
    Calls Tryd.prog 33 #[.pointer (some ⟨b, 0, none⟩)] w fun e w' => e = .panicked [{ v := .iface 66 (.agg #[.int .i64 (n)]), recovered := false }] ∧ Kept (one b) w w' :=
  (command_any b s l w h hs).mono fun _ _ ⟨h1, _, h2⟩ => ⟨h2 n hp, h1⟩
end Go.Proofs.YtolpmaapdkhigaaDoor
