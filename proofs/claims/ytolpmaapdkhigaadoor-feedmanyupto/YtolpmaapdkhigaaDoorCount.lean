/- WALKS of count. -/
import Derived.Test.YtolpmaapdkhigaaDoorScan3
namespace Go.Proofs.YtolpmaapdkhigaaDoor
open Go.RowKit

/-- What count does behind the first digit, as a plain function. -/
def pTail (most : Nat) : Nat → List UInt8 → Except Nat (Nat × List UInt8)
  | _, [] => .error 8
  | n, c :: r => if mayC n c then (if c = 13 then (match pMust [10] r with | .ok r' => .ok (n, r') | .error e => .error e)
      else (if most < 10 * n + (c.toNat - 48) then .error 2 else pTail most (10 * n + (c.toNat - 48)) r)) else .error 1
/-- count, as a plain function. -/
def pCount (least most : Nat) : List UInt8 → Except Nat (Nat × List UInt8)
  | [] => .error 8
  | c :: r => if isDig c then (if c.toNat - 48 < least then .error 1 else pTail most (c.toNat - 48) r) else .error 1

theorem isDig_iff (c : UInt8) : isDig c = true ↔ 48 ≤ (c.toNat : Int) ∧ (c.toNat : Int) ≤ 57 := by simp [isDig]; omega

set_option maxHeartbeats 800000 in
theorem count_any (least most : Nat) (b : Nat) (s : ByteArray) (l : List UInt8) (w : World) (h : AtL b s l w) (hm : most ≤ 1000) (hm9 : 9 ≤ most) :
    Calls Tryd.prog 52 #[.pointer (some ⟨b, 0, none⟩), .int .i64 least, .int .i64 most] w fun e w' => Kept (one b) w w' ∧
      (∀ n r, pCount least most l = .ok (n, r) → e = .returned (.int .i64 n) ∧ AtL b s r w') ∧ (∀ n, pCount least most l = .error n → e = .panicked [{ v := .iface 66 (.agg #[.int .i64 (n)]), recovered := false }]) := by
  have hmf : ∀ (fn : Fn) (first cap : Array Value) (w : World), (Instr.makeFunc fn first cap).run Tryd.prog w = .ok (.func fn first cap) w := fun _ _ _ _ => rfl
  cases l with
  | nil =>
    go_enter Tryd.func52, Tryd.ntmps52
    go_wp2_with (go_at_call 61; refine (want_short _ _ _ b s w h).mono ?_; rintro e w' ⟨rfl, hk2⟩)
    exact ⟨rfl, hk2, fun n r hr => by simp [pCount] at hr, fun n hr => by simp [pCount] at hr; subst hr; rfl⟩
  | cons c l =>
    cases hd : isDig c with
    | false =>
      go_enter Tryd.func52, Tryd.ntmps52
      go_wp2_with (go_at_call 61; refine (wantDigit_bad b s c l w h hd).mono ?_; rintro e w' ⟨rfl, hk2⟩)
      exact ⟨rfl, hk2, fun n r hr => by simp [pCount, hd] at hr, fun n hr => by simp [pCount, hd] at hr; subst hr; rfl⟩
    | true =>
      obtain ⟨hd1, hd2⟩ := (isDig_iff c).1 hd
      by_cases hl : (c.toNat : Int) - 48 < least
      · have HP : Hid (pCount least most (c :: l) = .error 1) := by
          simp only [Hid, pCount, hd, if_true]; rw [if_pos (by omega)]
        go_enter Tryd.func52, Tryd.ntmps52
        go_wp2_with (first | (go_at_call 61; refine (wantDigit_ok b s c l w h hd).mono ?_; rintro e w' ⟨rfl, ha, hk2⟩) | (go_at_call 43; refine (giveUp_any _ _).mono ?_; rintro e w' ⟨rfl, rfl⟩))
        refine ⟨rfl, ?_, fun n r hr => by rw [HP.out] at hr; simp at hr, fun n hr => by rw [HP.out] at hr; simp at hr; subst hr; rfl⟩
        exact hk2.alloc _
      · have HP : Hid (pCount least most (c :: l) = pTail most (c.toNat - 48) l) := by
          simp only [Hid, pCount, hd, if_true]; rw [if_neg (by omega)]
        go_enter Tryd.func52, Tryd.ntmps52
        go_wp2_with (go_at_call 61; refine (wantDigit_ok b s c l w h hd).mono ?_; rintro e w1 ⟨rfl, ha, hk2⟩)
        have hgb : w1.heap.size ≠ b := by have := ha.lt; omega
        have hwg : w.heap.size ≤ w1.heap.size := hk2.size
        have hst : AtL b s l (w1.alloc (Obj.cells #[Value.int IntKind.i64 ((c.toNat : Int) - 48)] 3)) := ha.alloc _
        have hkst : Kept (one b) w (w1.alloc (Obj.cells #[Value.int IntKind.i64 ((c.toNat : Int) - 48)] 3)) := hk2.alloc _
        have hc0 : (w1.alloc (Obj.cells #[Value.int IntKind.i64 ((c.toNat : Int) - 48)] 3)).cell? ⟨w1.heap.size, 0, none⟩ = some (.int .i64 ((c.toNat - 48 : Nat) : Int)) := by
          simp [go_sem]; omega
        have hf0 : (w1.alloc (Obj.cells #[Value.int IntKind.i64 ((c.toNat : Int) - 48)] 3)).frozen? ⟨w1.heap.size, 0, none⟩ = false := by
          simp [go_sem]
        generalize w1.alloc (Obj.cells #[Value.int IntKind.i64 ((c.toNat : Int) - 48)] 3) = w2 at *
        generalize w1.heap.size = g at *
        go_loopw [8] (fun _ wr => ∃ (n : Nat) (q : List UInt8), n ≤ most ∧ wr.cell? ⟨g, 0, none⟩ = some (.int .i64 n) ∧ wr.frozen? ⟨g, 0, none⟩ = false ∧ AtL b s q wr ∧ Kept (one b) w wr ∧
          Hid (pCount least most (c :: l) = pTail most n q)) (fun _ wr => leftOf b s wr)
        case atStart => exact ⟨c.toNat - 48, l, by omega, hc0, hf0, hst, hkst, HP⟩
        case round =>
          clear hc0 hf0 hst hkst ha HP hk2 hd hd1 hd2 hl h
          obtain ⟨n, q, hn, hcg, hfg, hq, hkq, HP⟩ := hrel
          cases q with
          | nil =>
            go_wp2_with (go_at_call 61; refine (want_short _ _ _ b s wr hq).mono ?_; rintro e w' ⟨rfl, hk2⟩)
            exact ⟨rfl, hkq.trans hk2, fun n r hr => by rw [HP.out] at hr; simp [pTail] at hr, fun n hr => by rw [HP.out] at hr; simp [pTail] at hr; subst hr; rfl⟩
          | cons d r =>
            cases hmay : mayC n d with
            | false =>
              go_wp2_with (go_at_call 61; refine (wantCount_bad b g n s d r wr hq hcg hgb hmay).mono ?_; rintro e w' ⟨rfl, hk2⟩)
              exact ⟨rfl, hkq.trans hk2, fun n r hr => by rw [HP.out] at hr; simp [pTail, hmay] at hr, fun n hr => by rw [HP.out] at hr; simp [pTail, hmay] at hr; subst hr; rfl⟩
            | true =>
              by_cases h13 : d = 13
              · subst h13
                have hP1 : pTail most n (13 :: r) = (match pMust [10] r with | .ok r' => .ok (n, r') | .error e => .error e) := by simp [pTail, hmay]
                have HP1 : Hid (pCount least most (c :: l) = (match pMust [10] r with | .ok r' => .ok (n, r') | .error e => .error e)) := HP.out.trans hP1
                clear hP1 HP
                go_wp2_with (go_at_call 61; refine (wantCount_ok b g n s 13 r wr hq hcg hgb hmay).mono ?_; rintro e w3 ⟨rfl, ha3, hk3⟩)
                have hcg3 : w3.cell? ⟨g, 0, none⟩ = some (.int .i64 n) := hk3.cell' hcg hgb
                cases hpm : pMust [10] r with
                | ok r' =>
                  rw [hpm] at HP1
                  refine (must1_ok 10 10 (by rfl) b s r r' w3 ha3 hpm).mono ?_
                  rintro e w4 ⟨rfl, ha4, hk4⟩
                  have hcg4 : w4.cell? ⟨g, 0, none⟩ = some (.int .i64 n) := hk4.cell' hcg3 hgb
                  go_wp2
                  go_ret
                  refine ⟨(hkq.trans hk3).trans hk4, fun n r hr => ?_, fun n hr => by rw [HP1.out] at hr; simp at hr⟩
                  rw [HP1.out] at hr
                  simp at hr
                  obtain ⟨rfl, rfl⟩ := hr
                  exact ⟨rfl, ha4⟩
                | error x =>
                  rw [hpm] at HP1
                  refine (must1_err 10 10 (by rfl) b s r x w3 ha3 hpm).mono ?_
                  rintro e w4 ⟨rfl, hk4⟩
                  refine ⟨rfl, (hkq.trans hk3).trans hk4, fun n r hr => by rw [HP1.out] at hr; simp at hr, fun n hr => ?_⟩
                  rw [HP1.out] at hr
                  simp at hr
                  subst hr
                  rfl
              · have hdn : 0 < (n : Int) ∧ isDig d = true := by
                  simp [mayC, h13] at hmay
                  exact ⟨by omega, hmay.2⟩
                obtain ⟨hn0, hdd⟩ := hdn
                obtain ⟨hd1, hd2⟩ := (isDig_iff d).1 hdd
                have hb13 : ((d.toNat : Int) == 13) = false := by simp; omega
                by_cases hov : (most : Int) < 10 * n + ((d.toNat : Int) - 48)
                · have HP1 : Hid (pCount least most (c :: l) = .error 2) := by
                    rw [HP.out]; simp only [Hid, pTail, hmay, if_true]; rw [if_neg h13, if_pos (by omega)]
                  clear HP h13
                  go_wp2_with (first | (go_at_call 61; refine (wantCount_ok b g n s d r wr hq hcg hgb hmay).mono ?_; rintro e w3 ⟨rfl, ha3, hk3⟩; have hcg3 : w3.cell? ⟨g, 0, none⟩ = some (.int .i64 n) := hk3.cell' hcg hgb; have hfg3 : w3.frozen? ⟨g, 0, none⟩ = false := (hk3.frozen (p := ⟨g, 0, none⟩) (World.block_lt_of_cell? _ _ hcg) hgb).trans hfg) | (go_at_call 43; refine (giveUp_any _ _).mono ?_; rintro e w' ⟨rfl, rfl⟩))
                  refine ⟨rfl, (hkq.trans hk3).setNew hwg _, fun n r hr => by rw [HP1.out] at hr; simp at hr, fun n hr => ?_⟩
                  rw [HP1.out] at hr
                  simp at hr
                  subst hr
                  rfl
                · have HP1 : Hid (pCount least most (c :: l) = pTail most (10 * n + (d.toNat - 48)) r) := by
                    rw [HP.out]; simp only [Hid, pTail, hmay, if_true]; rw [if_neg h13, if_neg (by omega)]
                  clear HP h13
                  go_wp2_with (first | (go_at_call 61; refine (wantCount_ok b g n s d r wr hq hcg hgb hmay).mono ?_; rintro e w3 ⟨rfl, ha3, hk3⟩; have hcg3 : w3.cell? ⟨g, 0, none⟩ = some (.int .i64 n) := hk3.cell' hcg hgb; have hfg3 : w3.frozen? ⟨g, 0, none⟩ = false := (hk3.frozen (p := ⟨g, 0, none⟩) (World.block_lt_of_cell? _ _ hcg) hgb).trans hfg))
                  have ha4 : AtL b s r (w3.setCell ⟨g, 0, none⟩ (.int .i64 (10 * (n : Int) + ((d.toNat : Int) - 48)))) := ha3.setOther hgb _
                  go_roundw
                  case rel =>
                    refine ⟨10 * n + (d.toNat - 48), r, by omega, ?_, ?_, ha4, (hkq.trans hk3).setNew hwg _, HP1⟩
                    · rw [World.cell?_setCell_same _ _ _ hcg3]
                      congr 2
                      omega
                    · simp [hfg3]
                  case measure =>
                    rw [ha4.left, hq.left]
                    simp

theorem count_ok (least most : Nat) (b : Nat) (s : ByteArray) (l : List UInt8) (n : Nat) (r : List UInt8) (w : World) (h : AtL b s l w) (hm : most ≤ 1000) (hm9 : 9 ≤ most) (hp : pCount least most l = .ok (n, r)) :
    Calls Tryd.prog 52 #[.pointer (some ⟨b, 0, none⟩), .int .i64 least, .int .i64 most] w fun e w' => e = .returned (.int .i64 n) ∧ AtL b s r w' ∧ Kept (one b) w w' :=
  (count_any least most b s l w h hm hm9).mono fun _ _ ⟨h1, h2, _⟩ => ⟨(h2 n r hp).1, (h2 n r hp).2, h1⟩
theorem count_err (least most : Nat) (b : Nat) (s : ByteArray) (l : List UInt8) (n : Nat) (w : World) (h : AtL b s l w) (hm : most ≤ 1000) (hm9 : 9 ≤ most) (hp : pCount least most l = .error n) :
    Calls Tryd.prog 52 #[.pointer (some ⟨b, 0, none⟩), .int .i64 least, .int .i64 most] w fun e w' => e = .panicked [{ v := .iface 66 (.agg #[.int .i64 (n)]), recovered := false }] ∧ Kept (one b) w w' :=
  (count_any least most b s l w h hm hm9).mono fun _ _ ⟨h1, _, h2⟩ => ⟨h2 n hp, h1⟩

end Go.Proofs.YtolpmaapdkhigaaDoor
