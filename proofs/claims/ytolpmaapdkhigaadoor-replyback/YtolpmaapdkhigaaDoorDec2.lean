/- WALK of number. -/
import Derived.Test.YtolpmaapdkhigaaDoorDec1
import Derived.Test.YtolpmaapdkhigaaDoorNum
namespace Go.Proofs.YtolpmaapdkhigaaDoor
open Go.RowKit

def pNumber (l : List UInt8) : Except Nat (Int × List UInt8) :=
  match pLine l with
  | .error e => .error e
  | .ok (x, q) => match pInt x with
    | some v => .ok (v, q)
    | none => .error 1

set_option maxRecDepth 100000 in
set_option maxHeartbeats 1000000 in
theorem number_any (b : Nat) (s : ByteArray) (l : List UInt8) (w : World) (h : AtL b s l w) (hs : s.size ≤ 281474976710656) (he : Env w) (hb5 : 5 ≤ b) :
    Calls Tryd.prog 57 #[.pointer (some ⟨b, 0, none⟩)] w fun e w' => Kept (one b) w w' ∧
      (∀ v q, pNumber l = .ok (v, q) → e = .returned (.int .i64 v) ∧ AtL b s q w') ∧ (∀ n, pNumber l = .error n → e = .panicked [{ v := .iface 66 (.agg #[.int .i64 (n)]), recovered := false }]) := by
  have hl := h.len
  cases hp : pLine l with
  | error x =>
    have HP : Hid (pNumber l = .error x) := by simp only [Hid, pNumber, hp]
    go_enter Tryd.func57, Tryd.ntmps57
    go_wp2_with (go_at_call 58; refine (line_err b s l x w h hs hp).mono ?_; rintro e w1 ⟨rfl, hk1⟩)
    exact ⟨rfl, hk1, fun v q hx => by rw [HP.out] at hx; simp at hx, fun n hx => by rw [HP.out] at hx; simp at hx; subst hx; rfl⟩
  | ok y =>
    obtain ⟨x, q⟩ := y
    obtain ⟨hlen, _⟩ := pLine_len l x q hp
    have hxl : x.length ≤ 281474976710656 := by omega
    cases hi : pInt x with
    | some v =>
      have HP : Hid (pNumber l = .ok (v, q)) := by simp only [Hid, pNumber, hp, hi]
      have HI := hide hi
      have HH := hide h
      have HPL := hide hp
      clear h hp hlen hi
      go_enter Tryd.func57, Tryd.ntmps57
      go_wp2_with fail
      refine (line_ok b s l x q w HH.out hs HPL.out).mono ?_
      rintro e w1 ⟨rfl, ha1, hk1⟩
      have he1 : Env w1 := he.kept hk1 (fun k e => by simp only [one] at e; omega)
      go_wp2_with fail
      refine (digitsNumber_any x w1 hxl he1).mono ?_
      rintro e w2 ⟨hb2, hsome, _⟩
      rw [hsome v HI.out]
      have ha2 : AtL b s q w2 := ha1.kept (Kept.of_below hb2 (fun _ => False)) (fun e => e)
      have hk2 : Kept (one b) w w2 := hk1.trans (Kept.of_below hb2 _)
      clear hsome
      go_wp2_with fail
      go_ret
      refine ⟨hk2, fun v' q' hx => ?_, fun n hx => by rw [HP.out] at hx; simp at hx⟩
      rw [HP.out] at hx
      simp at hx
      obtain ⟨rfl, rfl⟩ := hx
      exact ⟨rfl, ha2⟩
    | none =>
      have HP : Hid (pNumber l = .error 1) := by simp only [Hid, pNumber, hp, hi]
      have HI := hide hi
      have HH := hide h
      have HPL := hide hp
      clear h hp hlen hi
      go_enter Tryd.func57, Tryd.ntmps57
      go_wp2_with fail
      refine (line_ok b s l x q w HH.out hs HPL.out).mono ?_
      rintro e w1 ⟨rfl, ha1, hk1⟩
      have he1 : Env w1 := he.kept hk1 (fun k e => by simp only [one] at e; omega)
      go_wp2_with fail
      refine (digitsNumber_any x w1 hxl he1).mono ?_
      rintro e w2 ⟨hb2, _, hnone⟩
      rw [hnone HI.out]
      have hk2 : Kept (one b) w w2 := hk1.trans (Kept.of_below hb2 _)
      clear hnone
      go_wp2_with (go_at_call 43; refine (giveUp_any _ _).mono ?_; rintro e w' ⟨rfl, rfl⟩)
      exact ⟨rfl, hk2, fun v' q' hx => by rw [HP.out] at hx; simp at hx, fun n hx => by rw [HP.out] at hx; simp at hx; subst hx; rfl⟩

theorem number_ok (b : Nat) (s : ByteArray) (l q : List UInt8) (v : Int) (w : World) (h : AtL b s l w) (hs : s.size ≤ 281474976710656) (he : Env w) (hb5 : 5 ≤ b) (hp : pNumber l = .ok (v, q)) :
    Calls Tryd.prog 57 #[.pointer (some ⟨b, 0, none⟩)] w fun e w' => e = .returned (.int .i64 v) ∧ AtL b s q w' ∧ Kept (one b) w w' :=
  (number_any b s l w h hs he hb5).mono fun _ _ ⟨h1, h2, _⟩ => ⟨(h2 v q hp).1, (h2 v q hp).2, h1⟩
theorem number_err (b : Nat) (s : ByteArray) (l : List UInt8) (n : Nat) (w : World) (h : AtL b s l w) (hs : s.size ≤ 281474976710656) (he : Env w) (hb5 : 5 ≤ b) (hp : pNumber l = .error n) :
    Calls Tryd.prog 57 #[.pointer (some ⟨b, 0, none⟩)] w fun e w' => e = .panicked [{ v := .iface 66 (.agg #[.int .i64 (n)]), recovered := false }] ∧ Kept (one b) w w' :=
  (number_any b s l w h hs he hb5).mono fun _ _ ⟨h1, _, h2⟩ => ⟨h2 n hp, h1⟩
theorem pNumber_bounds {l q : List UInt8} {v : Int} (h : pNumber l = .ok (v, q)) : -999999999 ≤ v ∧ v ≤ 999999999 ∧ q <:+ l ∧ q.length + 2 ≤ l.length := by
  unfold pNumber at h
  split at h
  · simp at h
  · rename_i x q' hp
    split at h
    · rename_i u hu
      simp at h
      obtain ⟨rfl, rfl⟩ := h
      obtain ⟨h1, h2⟩ := pLine_len _ _ _ hp
      unfold pInt at hu
      split at hu
      · split at hu
        · rename_i hc
          simp at hu
          subst hu
          exact ⟨hc.2.1, hc.2.2, h2, by omega⟩
        · simp at hu
      · simp at hu
    · simp at h
end Go.Proofs.YtolpmaapdkhigaaDoor
