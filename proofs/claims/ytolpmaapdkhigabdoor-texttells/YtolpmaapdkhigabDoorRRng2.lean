/- WALK of the reference's RangeText. -/
import Derived.Test.YtolpmaapdkhigabDoorRRng
import Derived.WalkSpells
import Derived.Handy
namespace Go.Proofs.YtolpmaapdkhigabDoor
open Go.RowKit

/-- what is told behind k places -/
def outL (l : List UInt8) (p q k : Nat) : List UInt8 := (l.drop p).take (min k q - p)
theorem outL_in {l : List UInt8} {p q k : Nat} (h1 : p ≤ k) (h2 : k < q) (h3 : k < l.length) : outL l p q (k + 1) = outL l p q k ++ [l[k]] := by
  unfold outL
  rw [show min (k + 1) q - p = (min k q - p) + 1 by omega, List.take_succ_eq_append_getElem (by rw [List.length_drop]; omega)]
  congr 2
  rw [List.getElem_drop]
  congr 1
  omega
theorem outL_out {l : List UInt8} {p q k : Nat} (h : ¬ (p ≤ k ∧ k < q)) : outL l p q (k + 1) = outL l p q k := by
  unfold outL
  by_cases h1 : p ≤ k
  · rw [show min (k + 1) q = min k q by omega]
  · rw [show min (k + 1) q - p = min k q - p by omega]
theorem outL_len (l : List UInt8) (p q k : Nat) : (outL l p q k).length ≤ l.length := by
  unfold outL
  rw [List.length_take, List.length_drop]
  omega
theorem extract_one (s : ByteArray) (k : Nat) (h : k < s.data.toList.length) : (s.extract k (k + 1)).data.toList = [s.data.toList[k]] := by
  rw [extract_list]
  show (s.data.toList.drop k).take (k + 1 - k) = _
  rw [show k + 1 - k = 1 by omega, List.drop_eq_getElem_cons h]
  rfl
set_option maxRecDepth 100000 in
set_option maxHeartbeats 1000000 in
theorem rangeText_any (s : ByteArray) (f t : Int) (w : World) (hs : s.size ≤ 60) (hf1 : -1000 ≤ f) (hf2 : f ≤ 1000) (ht1 : -1000 ≤ t) (ht2 : t ≤ 1000) :
    Calls Tryd.prog 13 #[.string s, .int .i64 f, .int .i64 t] w fun e w' => e = .returned (.string (s.extract (place1 s.size f t) (place2 s.size f t))) ∧ w' = w := by
  have HR : Hid (∀ (i : Nat) W, i < s.size → Calls Tryd.prog 28 #[.int .i64 i, .int .i64 s.size, .int .i64 f, .int .i64 t] W fun e w' => e = .returned (.bool (inR i s.size f t)) ∧ w' = W) := fun i W hi => inRange_any i s.size f t W hi (by omega) hf1 hf2 ht1 ht2
  have HE : Hid (s.extract (place1 s.size f t) (place2 s.size f t) = ⟨(outL s.data.toList (place1 s.size f t) (place2 s.size f t) s.size).toArray⟩) := by
    rw [Hid, extract_list, outL, Nat.min_eq_right (place_le s.size f t).2]
  have HI : Hid (∀ i, inR i s.size f t = decide (place1 s.size f t ≤ i ∧ i < place2 s.size f t)) := fun _ => rfl
  rw [HE.out]
  generalize place1 s.size f t = p at *
  generalize place2 s.size f t = q at *
  clear HE
  go_enter Tryd.func13, Tryd.ntmps13
  go_wp2_with fail
  go_loop [7, 8] (fun o i => ∃ (k : Nat) (O : ByteArray), k ≤ s.size ∧ i = .int .i64 k ∧ o = .string O ∧ Hid (O.data.toList = outL s.data.toList p q k)) (fun _ i => s.size - (intOf i).toNat)
  case atStart => exact ⟨0, ⟨#[]⟩, Nat.zero_le _, rfl, rfl, by simp [Hid, outL]⟩
  case round =>
    obtain ⟨k, O, hk, rfl, rfl, HO⟩ := hrel
    have hOs : O.size ≤ 60 := by
      have h1 := outL_len s.data.toList p q k
      rw [← HO.out, size_list, size_list] at h1
      omega
    by_cases hlt : k < s.size
    · have hlt' : ((k : Nat) : Int) < ((s.size : Nat) : Int) := by omega
      by_cases hin : p ≤ k ∧ k < q
      · have HB : Hid (inR k s.size f t = true) := by rw [Hid, HI.out]; exact decide_eq_true hin
        have HO2 : Hid ((O ++ s.extract k (k + 1)).data.toList = outL s.data.toList p q (k + 1)) := by
          rw [Hid, list_append, outL_in hin.1 hin.2 (by rw [size_list]; exact hlt), HO.out, extract_one s k (by rw [size_list]; exact hlt)]
        have hsz : ¬ 9223372036854775807 < O.size + (s.extract k (k + 1)).size := by rw [ByteArray.size_extract]; omega
        have hsz2 : ¬ 9223372036854775807 < O.size + (min (k + 1) s.size - k) := by omega
        clear hin
        go_wp2_with fail
        refine (HR.out k w hlt).mono ?_
        rintro e w1 ⟨rfl, rfl⟩
        rw [HB.out]
        go_wp2_with fail
        go_round
        case rel => exact ⟨k + 1, _, by omega, by go_num, rfl, HO2⟩
        case measure => simp [intOf]; omega
      · have HB : Hid (inR k s.size f t = false) := by rw [Hid, HI.out]; exact decide_eq_false hin
        have HO2 : Hid (O.data.toList = outL s.data.toList p q (k + 1)) := by rw [Hid, outL_out hin]; exact HO.out
        clear hin
        go_wp2_with fail
        refine (HR.out k w hlt).mono ?_
        rintro e w1 ⟨rfl, rfl⟩
        rw [HB.out]
        go_wp2_with fail
        go_round
        case rel => exact ⟨k + 1, O, by omega, by go_num, rfl, HO2⟩
        case measure => simp [intOf]; omega
    · have hge : ¬ ((k : Nat) : Int) < ((s.size : Nat) : Int) := by omega
      have HF : Hid (O = ⟨(outL s.data.toList p q s.size).toArray⟩) := by
        have : k = s.size := by omega
        subst this
        rw [Hid, ← HO.out]
      go_wp2_with fail
      go_ret
      rw [← HF.out]
      exact ⟨rfl, rfl⟩
end Go.Proofs.YtolpmaapdkhigabDoor
