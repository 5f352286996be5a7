/- WALKS of the reference's look into a bracket, and of where a part ends. -/
import Derived.Test.YtolpmaapdkhigaaGRef1
import Derived.Handy
namespace Go.Proofs.Ytolpmaapdkhigaa
open Go.RowKit

/-- the spans of what stands within brackets -/
def spansF : Nat → List UInt8 → List (UInt8 × UInt8)
  | 0, _ => []
  | _ + 1, [] => []
  | f + 1, c :: l => match l with
    | 45 :: d :: r => (c, d) :: spansF f r
    | _ => (c, c) :: spansF f l
theorem spansF_nil (f : Nat) : spansF f [] = [] := by cases f <;> rfl
theorem spansF_span (f : Nat) (c d : UInt8) (r : List UInt8) : spansF (f + 1) (c :: 45 :: d :: r) = (c, d) :: spansF f r := rfl
theorem spansF_one (f : Nat) (c : UInt8) (l : List UInt8) (h : ∀ d r, l ≠ 45 :: d :: r) : spansF (f + 1) (c :: l) = (c, c) :: spansF f l := by
  rw [spansF]
  exact fun d r e => h d r e
theorem inSpan_one (c x : UInt8) : inSpan c (x, x) = (c == x) := by
  rw [Bool.eq_iff_iff]
  simp only [inSpan, Bool.and_eq_true, decide_eq_true_eq, beq_iff_eq]
  constructor
  · rintro ⟨h1, h2⟩; exact UInt8.toNat_inj.mp (by omega)
  · rintro rfl; exact ⟨Nat.le_refl _, Nat.le_refl _⟩

set_option maxRecDepth 100000 in
set_option maxHeartbeats 2000000 in
theorem inClass_any (s : ByteArray) (c : UInt8) (w : World) (hs : s.size ≤ 60) :
    Calls Try.prog 22 #[.string s, .int .u8 c.toNat] w fun e w' => e = .returned (.bool ((spansF (s.size + 1) s.data.toList).any (inSpan c))) ∧ ∃ n, w' = w.drewN n := by
  go_enter Try.func22, Try.ntmps22
  go_wp2_with fail
  go_loop [5] (fun vi => ∃ (i f : Nat) (l : List UInt8), vi = .int .i64 i ∧ Hid (Pos s i l) ∧ l.length < f ∧ Hid ((spansF (s.size + 1) s.data.toList).any (inSpan c) = (spansF f l).any (inSpan c))) (fun vi => s.size + 1 - (intOf vi).toNat)
  case atStart => exact ⟨0, s.size + 1, s.data.toList, rfl, ⟨by simp, Nat.zero_le _⟩, by rw [size_list]; omega, rfl⟩
  case round =>
    obtain ⟨i, f, l, rfl, HP, hf, HR⟩ := hrel
    have hlen := HP.out.len
    cases l with
    | nil =>
      simp only [List.length_nil, Nat.add_zero] at hlen
      have hge : ¬ ((i : Nat) : Int) < ((s.size : Nat) : Int) := by omega
      go_wp2_with fail
      go_ret
      rw [HR.out, spansF_nil]
      exact ⟨rfl, 0, rfl⟩
    | cons x l =>
      simp only [List.length_cons] at hlen hf
      obtain ⟨f, rfl⟩ : ∃ f', f = f' + 1 := ⟨f - 1, by omega⟩
      have hlt : i < s.size := by omega
      have g0 : s[i] = x := HP.out.get 0 (by simp) hlt
      by_cases hsp : ∃ d r, l = 45 :: d :: r
      · obtain ⟨d, r, rfl⟩ := hsp
        simp only [List.length_cons] at hlen hf
        have i1 : i + 1 < s.size := by omega
        have i2 : i + 2 < s.size := by omega
        have h1 : s[i + 1].toNat = 45 := by rw [HP.out.get 1 (by simp) i1]; rfl
        have g2 : s[i + 2] = d := HP.out.get 2 (by simp) i2
        have HP2 : Hid (Pos s (i + 3) r) := HP.out.skip 3 (by simp)
        have HR2 : Hid ((spansF (s.size + 1) s.data.toList).any (inSpan c) = (inSpan c (x, d) || (spansF f r).any (inSpan c))) := by rw [Hid, HR.out, spansF_span, List.any_cons]
        by_cases ha : x.toNat ≤ c.toNat
        · have ha' : ((s[i].toNat : Nat) : Int) ≤ ((c.toNat : Nat) : Int) := by rw [g0]; omega
          by_cases hb : c.toNat ≤ d.toNat
          · have hb' : ((c.toNat : Nat) : Int) ≤ ((s[i + 2].toNat : Nat) : Int) := by rw [g2]; omega
            have HV : Hid ((spansF (s.size + 1) s.data.toList).any (inSpan c) = true) := by rw [Hid, HR2.out]; simp [inSpan, ha, hb]
            clear g0 g2 HP HR HR2
            go_wp2_with fail
            go_ret
            rw [HV.out]
            exact ⟨rfl, 0, rfl⟩
          · have hb' : ¬ ((c.toNat : Nat) : Int) ≤ ((s[i + 2].toNat : Nat) : Int) := by rw [g2]; omega
            have HV : Hid ((spansF (s.size + 1) s.data.toList).any (inSpan c) = (spansF f r).any (inSpan c)) := by rw [Hid, HR2.out]; simp [inSpan, hb]
            clear g0 g2 HP HR HR2
            go_wp2_with fail
            go_round
            case rel => exact ⟨i + 3, f, r, by go_num, HP2, by omega, HV⟩
            case measure => simp only [intOf]; omega
        · have ha' : ¬ ((s[i].toNat : Nat) : Int) ≤ ((c.toNat : Nat) : Int) := by rw [g0]; omega
          have HV : Hid ((spansF (s.size + 1) s.data.toList).any (inSpan c) = (spansF f r).any (inSpan c)) := by rw [Hid, HR2.out]; simp [inSpan, ha]
          clear g0 g2 HP HR HR2
          go_wp2_with fail
          go_round
          case rel => exact ⟨i + 3, f, r, by go_num, HP2, by omega, HV⟩
          case measure => simp only [intOf]; omega
      · have hno : ∀ d r, l ≠ 45 :: d :: r := fun d r e => hsp ⟨d, r, e⟩
        have HP2 : Hid (Pos s (i + 1) l) := HP.out.tail
        have HR2 : Hid ((spansF (s.size + 1) s.data.toList).any (inSpan c) = ((c == x) || (spansF f l).any (inSpan c))) := by rw [Hid, HR.out, spansF_one f x l hno, List.any_cons, inSpan_one]
        have hst : (((c.toNat : Nat) : Int) == ((s[i].toNat : Nat) : Int)) = (c == x) := by rw [g0]; exact u8_beq c x
        have hgo : (i + 2 < s.size ∧ ∃ h1 : i + 1 < s.size, ¬ s[i + 1].toNat = 45) ∨ ¬ i + 2 < s.size := by
          by_cases h2 : i + 2 < s.size
          · refine .inl ⟨h2, by omega, ?_⟩
            match l, hno, hlen with
            | [], _, hlen => simp at hlen; omega
            | [_], _, hlen => simp at hlen; omega
            | y :: d :: r, hno, hlen =>
              rw [HP.out.get 1 (by simp) (by omega)]
              intro e
              exact hno d r (by rw [show y = 45 from UInt8.toNat_inj.mp (by simpa using e)])
          · exact .inr h2
        clear g0 HP HR
        cases hcx : (c == x) with
        | true =>
          have HV : Hid ((spansF (s.size + 1) s.data.toList).any (inSpan c) = true) := by rw [Hid, HR2.out, hcx]; rfl
          rw [hcx] at hst
          rcases hgo with ⟨h2, h1, hn⟩ | h2
          · go_wp2_with fail
            go_ret
            rw [HV.out]
            exact ⟨rfl, 0, rfl⟩
          · have h2' : ¬ ((i : Nat) : Int) + 2 < ((s.size : Nat) : Int) := by omega
            go_wp2_with fail
            go_ret
            rw [HV.out]
            exact ⟨rfl, 0, rfl⟩
        | false =>
          have HV : Hid ((spansF (s.size + 1) s.data.toList).any (inSpan c) = (spansF f l).any (inSpan c)) := by rw [Hid, HR2.out, hcx]; rfl
          rw [hcx] at hst
          rcases hgo with ⟨h2, h1, hn⟩ | h2
          · go_wp2_with fail
            go_round
            case rel => exact ⟨i + 1, f, l, by go_num, HP2, by omega, HV⟩
            case measure => simp only [intOf]; omega
          · have h2' : ¬ ((i : Nat) : Int) + 2 < ((s.size : Nat) : Int) := by omega
            go_wp2_with fail
            go_round
            case rel => exact ⟨i + 1, f, l, by go_num, HP2, by omega, HV⟩
            case measure => simp only [intOf]; omega
end Go.Proofs.Ytolpmaapdkhigaa
