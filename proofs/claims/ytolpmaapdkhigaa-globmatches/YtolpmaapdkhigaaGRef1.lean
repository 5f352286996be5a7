/- WALK of the reference's look for the end of a bracket. -/
import Derived.Test.YtolpmaapdkhigaaGFn
import Derived.BigQuiet
import Derived.Handy
namespace Go.Proofs.Ytolpmaapdkhigaa
open Go.RowKit

/-- what is left of a text from a place on -/
structure Pos (s : ByteArray) (i : Nat) (l : List UInt8) : Prop where
  eq : s.data.toList.drop i = l
  le : i ≤ s.size
theorem Pos.len {s : ByteArray} {i : Nat} {l : List UInt8} (h : Pos s i l) : i + l.length = s.size := by
  have := h.le
  rw [← h.eq, List.length_drop, size_list]
  omega
theorem Pos.get {s : ByteArray} {i : Nat} {l : List UInt8} (h : Pos s i l) (k : Nat) (hk : k < l.length) (hi : i + k < s.size) : s[i + k] = l[k] := by
  have h2 : (s.data.toList.drop i)[k]? = some l[k] := by rw [h.eq, List.getElem?_eq_getElem hk]
  rw [List.getElem?_drop, List.getElem?_eq_getElem (by rw [size_list]; exact hi)] at h2
  exact Option.some.inj h2
theorem Pos.skip {s : ByteArray} {i : Nat} {l : List UInt8} (h : Pos s i l) (k : Nat) (hk : k ≤ l.length) : Pos s (i + k) (l.drop k) := by
  have := h.len
  refine ⟨?_, by omega⟩
  rw [← h.eq, List.drop_drop]
theorem Pos.tail {s : ByteArray} {i : Nat} {c : UInt8} {l : List UInt8} (h : Pos s i (c :: l)) : Pos s (i + 1) l := h.skip 1 (by simp)

def clsRet (s : ByteArray) (f : Bool) (l : List UInt8) : Ending :=
  match pCls l with
  | .error _ => .returned (.tuple #[.int .i64 0, .bool false])
  | .ok (xs, q) => .returned (.tuple #[.int .i64 ((s.size - q.length - 1 : Nat) : Int), .bool (!(f && xs.isEmpty))])
theorem clsRet_nil (s : ByteArray) (f : Bool) : clsRet s f [] = .returned (.tuple #[.int .i64 0, .bool false]) := rfl
theorem clsRet_end (s : ByteArray) (f : Bool) (l : List UInt8) : clsRet s f (93 :: l) = .returned (.tuple #[.int .i64 ((s.size - l.length - 1 : Nat) : Int), .bool (!f)]) := by
  rw [clsRet, pCls_end]
  simp
theorem clsRet_err (s : ByteArray) (f : Bool) {c : UInt8} {l : List UInt8} {n : Nat} (hc : c ≠ 93) (h : pSpan c l = .error n) : clsRet s f (c :: l) = .returned (.tuple #[.int .i64 0, .bool false]) := by
  rw [clsRet, pCls_err hc h]
theorem clsRet_ok (s : ByteArray) (f : Bool) {c : UInt8} {l q : List UInt8} {x : UInt8 × UInt8} (hc : c ≠ 93) (h : pSpan c l = .ok (x, q)) : clsRet s f (c :: l) = clsRet s false q := by
  rw [clsRet, pCls_ok hc h, clsRet]
  cases pCls q with
  | error e => rfl
  | ok y => simp

set_option maxRecDepth 100000 in
set_option maxHeartbeats 2000000 in
theorem classAt_any (s : ByteArray) (i0 : Nat) (l0 : List UInt8) (w : World) (h : Pos s i0 l0) (hs : s.size ≤ 60) :
    Calls Try.prog 12 #[.string s, .int .i64 (i0 : Int)] w fun e w' => e = clsRet s true l0 ∧ ∃ n, w' = w.drewN n := by
  have HP := hide h
  clear h
  go_enter Try.func12, Try.ntmps12
  go_wp2_with fail
  go_loopw [1, 6] (fun vi vf wr => ∃ (i : Nat) (f : Bool) (l : List UInt8) (n : Nat), vi = .int .i64 i ∧ vf = .bool f ∧ Hid (Pos s i l) ∧ wr = w.drewN n ∧ Hid (clsRet s true l0 = clsRet s f l)) (fun vi _ _ => s.size + 1 - (intOf vi).toNat)
  case atStart => exact ⟨i0, true, l0, 0, rfl, rfl, HP, rfl, rfl⟩
  case round =>
    clear HP
    obtain ⟨i, f, l, n, rfl, rfl, HP, rfl, HR⟩ := hrel
    have hlen := HP.out.len
    cases l with
    | nil =>
      simp only [List.length_nil, Nat.add_zero] at hlen
      have hge : ¬ ((i : Nat) : Int) < ((s.size : Nat) : Int) := by omega
      go_wp2_with fail
      go_ret2
      rw [HR.out, clsRet_nil]
      exact ⟨rfl, _, rfl⟩
    | cons c l =>
      simp only [List.length_cons] at hlen
      have hlt : i < s.size := by omega
      have g0 : s[i] = c := HP.out.get 0 (by simp) hlt
      have hsc : s[i].toNat = c.toNat := by rw [g0]
      by_cases hc : c = 93
      · subst hc
        have HV : Hid (clsRet s true l0 = .returned (.tuple #[.int .i64 (i : Int), .bool (!f)])) := by
          rw [Hid, HR.out, clsRet_end]
          have : s.size - l.length - 1 = i := by omega
          rw [this]
        have h93 : s[i].toNat = 93 := hsc
        clear hsc g0
        go_wp2_with fail
        go_ret2
        rw [HV.out]
        exact ⟨rfl, _, rfl⟩
      · have hcn : ¬ s[i].toNat = 93 := by rw [hsc]; exact fun e => hc (UInt8.toNat_inj.mp (by simpa using e))
        have hcb : (((s[i].toNat : Nat) : Int) == 93) = false := by rw [beq_eq_false_iff_ne]; omega
        by_cases hsp : ∃ d r, l = 45 :: d :: r ∧ d ≠ 93
        · obtain ⟨d, r, rfl, hd⟩ := hsp
          simp only [List.length_cons] at hlen
          have i1 : i + 1 < s.size := by omega
          have i2 : i + 2 < s.size := by omega
          have h1 : s[i + 1].toNat = 45 := by rw [HP.out.get 1 (by simp) i1]; rfl
          have g2 : s[i + 2] = d := HP.out.get 2 (by simp) i2
          have h2n : ¬ s[i + 2].toNat = 93 := by rw [g2]; exact fun e => hd (UInt8.toNat_inj.mp (by simpa using e))
          have h2b : (((s[i + 2].toNat : Nat) : Int) != 93) = true := by rw [bne_iff_ne]; omega
          by_cases hle : c.toNat ≤ d.toNat
          · have HS2 : Hid (clsRet s true l0 = clsRet s false r) := by rw [Hid, HR.out, clsRet_ok s f hc (show pSpan c (45 :: d :: r) = .ok ((c, d), r) by simp [pSpan, hd, hle])]
            have HP2 : Hid (Pos s (i + 3) r) := HP.out.skip 3 (by simp)
            have hlt2 : ¬ ((s[i + 2].toNat : Nat) : Int) < ((s[i].toNat : Nat) : Int) := by rw [g2, g0]; omega
            clear g0 g2 hsc HP HR
            go_wp2_with fail
            go_quiet (fail)
            go_wp2_with fail
            go_roundw
            case rel => exact ⟨i + 3, false, r, _, by go_num, rfl, HP2, rfl, HS2⟩
            case measure => simp only [intOf]; omega
          · have HV : Hid (clsRet s true l0 = .returned (.tuple #[.int .i64 0, .bool false])) := by rw [Hid, HR.out, clsRet_err s f hc (show pSpan c (45 :: d :: r) = .error 1 by simp [pSpan, hd, hle])]
            have hlt2 : ((s[i + 2].toNat : Nat) : Int) < ((s[i].toNat : Nat) : Int) := by rw [g2, g0]; omega
            clear g0 g2 hsc HP HR
            go_wp2_with fail
            go_quiet (fail)
            go_wp2_with fail
            go_ret2
            rw [HV.out]
            exact ⟨rfl, _, World.drewN_drewN _ _ _⟩
        · have hps : pSpan c l = .ok ((c, c), l) := by
            unfold pSpan
            split
            · rename_i d r
              split
              · rfl
              · rename_i hd
                exact absurd ⟨d, r, rfl, hd⟩ hsp
            · rfl
          have HS2 : Hid (clsRet s true l0 = clsRet s false l) := by rw [Hid, HR.out, clsRet_ok s f hc hps]
          have HP2 : Hid (Pos s (i + 1) l) := HP.out.tail
          by_cases h2 : i + 2 < s.size
          · have i1 : i + 1 < s.size := by omega
            match l, hsp, hlen with
            | [], _, hlen => simp at hlen; omega
            | [_], _, hlen => simp at hlen; omega
            | x :: d :: r, hsp, hlen =>
              have g1 : s[i + 1] = x := HP.out.get 1 (by simp) i1
              have g2 : s[i + 2] = d := HP.out.get 2 (by simp) h2
              by_cases hx : x = 45
              · have hd : d = 93 := Decidable.byContradiction fun hd => hsp ⟨d, r, by rw [hx], hd⟩
                have t1 : s[i + 1].toNat = 45 := by rw [g1, hx]; rfl
                have t2 : s[i + 2].toNat = 93 := by rw [g2, hd]; rfl
                clear g0 g1 g2 hsc HP HR
                go_wp2_with fail
                go_roundw
                case rel => exact ⟨i + 1, false, x :: d :: r, n, by go_num, rfl, HP2, rfl, HS2⟩
                case measure => simp only [intOf]; omega
              · have t1 : ¬ s[i + 1].toNat = 45 := by rw [g1]; exact fun e => hx (UInt8.toNat_inj.mp (by simpa using e))
                clear g0 g1 g2 hsc HP HR
                go_wp2_with fail
                go_roundw
                case rel => exact ⟨i + 1, false, x :: d :: r, n, by go_num, rfl, HP2, rfl, HS2⟩
                case measure => simp only [intOf]; omega
          · have h2' : ¬ ((i : Nat) : Int) + 2 < ((s.size : Nat) : Int) := by omega
            clear g0 hsc HP HR
            go_wp2_with fail
            go_roundw
            case rel => exact ⟨i + 1, false, l, n, by go_num, rfl, HP2, rfl, HS2⟩
            case measure => simp only [intOf]; omega
end Go.Proofs.Ytolpmaapdkhigaa
