/- WALKS of the reference's reading of numbers. -/
import Derived.Test.YtolpmaapdkhigabDoorTells7
import Derived.Test.YtolpmaapdkhigabDoorTells1
import Derived.BigQuiet
import Derived.Handy
namespace Go.Proofs.YtolpmaapdkhigabDoor
open Go.RowKit

def intRet (o : Option Int) : Ending := .returned (.tuple #[.int .i64 (o.getD 0), .bool o.isSome])
theorem isEmpty_size {D : ByteArray} (h : 0 < D.size) : D.toList.isEmpty = false := by
  rw [ByteArray.toList_eq]
  cases hd : D.data.toList with
  | nil => have := size_list D; rw [hd] at this; simp at this; omega
  | cons c r => rfl
theorem isEmpty_zero {D : ByteArray} (h : D.size = 0) : D.toList = [] := by
  rw [ByteArray.toList_eq]
  exact List.eq_nil_of_length_eq_zero (by rw [size_list, h])
theorem take_get (D : ByteArray) (k : Nat) (h : k < D.size) : D.data.toList.take (k + 1) = D.data.toList.take k ++ [D[k]] := by
  rw [List.take_succ_eq_append_getElem (by rw [size_list]; exact h)]
  rfl
theorem head_get (D : ByteArray) (h : 0 < D.size) : D.data.toList.head? = some D[0] := by
  rw [List.head?_eq_getElem?, List.getElem?_eq_getElem (by rw [size_list]; exact h)]
  rfl
/-- what the reading of digits comes to -/
theorem rDig_bad {neg : Bool} {D : ByteArray} (h : D.size = 0 ∨ 9 < D.size ∨ (∃ h0 : 0 < D.size, D[0].toNat = 48 ∧ (1 < D.size ∨ neg = true))) : rDig neg D.data.toList = none := by
  unfold rDig
  rw [if_pos]
  rcases h with h | h | ⟨h0, h1, h2⟩
  · exact .inl (List.eq_nil_of_length_eq_zero (by rw [size_list, h]))
  · exact .inr (.inl (by rw [size_list]; exact h))
  · refine .inr (.inr ⟨?_, by rw [size_list]; exact h2⟩)
    rw [head_get D h0, show D[0] = 48 from UInt8.toNat_inj.mp (by simpa using h1)]
theorem rDig_good {neg : Bool} {D : ByteArray} (h0 : 0 < D.size) (h9 : D.size ≤ 9) (hz : D[0].toNat = 48 → D.size = 1 ∧ neg = false) : rDig neg D.data.toList = if D.data.toList.all rIsDig then some (valOf 0 D.data.toList) else none := by
  unfold rDig
  rw [if_neg]
  rintro (h | h | ⟨h, h2⟩)
  · have := size_list D; rw [h] at this; simp at this; omega
  · rw [size_list] at h; omega
  · rw [head_get D h0] at h
    simp at h
    obtain ⟨h3, h4⟩ := hz (by rw [h]; rfl)
    rw [size_list, h4] at h2
    simp at h2
    omega
theorem val_step (D : ByteArray) (k : Nat) (hk : k < D.size) (h9 : D.size ≤ 9) (ha : (D.data.toList.take k).all rIsDig = true) (hc : rIsDig D[k] = true) :
    (D.data.toList.take (k + 1)).all rIsDig = true ∧ valOf 0 (D.data.toList.take (k + 1)) = 10 * valOf 0 (D.data.toList.take k) + (D[k].toNat - 48) ∧ valOf 0 (D.data.toList.take (k + 1)) < 1000000000 := by
  have ht := take_get D k hk
  have h1 : (D.data.toList.take (k + 1)).all rIsDig = true := by rw [ht, List.all_append, ha]; simp [hc]
  refine ⟨h1, by rw [ht, valOf_snoc], ?_⟩
  have := valOf_lt (D.data.toList.take (k + 1)) 0 0 (List.all_eq_true.mp h1) (by decide)
  have hl : (D.data.toList.take (k + 1)).length ≤ 9 := by rw [List.length_take, size_list]; omega
  have hp : 10 ^ (0 + (D.data.toList.take (k + 1)).length) ≤ 10 ^ 9 := Nat.pow_le_pow_right (by decide) (by omega)
  omega

set_option maxRecDepth 100000 in
set_option maxHeartbeats 4000000 in
theorem intOf_neg (s D : ByteArray) (w : World) (r : List UInt8) (hs : s.data.toList = 45 :: r) (hD : D = ⟨r.toArray⟩) :
    Calls Tryd.prog 24 #[.string s] w fun e w' => e = intRet ((rDig true D.data.toList).map (fun u : Nat => -(u : Int))) ∧ Below w.heap.size w w' := by
  have hsz : s.size = r.length + 1 := by rw [← size_list, hs]; rfl
  have hpos0 : 0 < s.size := by omega
  have hsE := isEmpty_size hpos0
  have hs0 : s[0].toNat = 45 := by
    have := head_get s hpos0
    rw [hs] at this
    simp at this
    rw [← this]
    rfl
  have hsl : ∀ W : World, (Instr.slice 9 (.string s) (some (.int .i64 1)) none none).run Tryd.prog W = .ok (.string D) W := fun W => by
    rw [run_slice_string_from_if (P := Tryd.prog) W 9 s .i64 _ Tryd.underlying9, if_pos (by omega), extract_list, hs, hD]
    congr 4
    simp [hsz]
  clear hs hD
  by_cases h0 : D.size = 0
  · rw [rDig_bad (.inl h0)]
    have hE := isEmpty_zero h0
    go_enter Tryd.func24, Tryd.ntmps24
    go_wp2_with fail
    go_quiet (fail)
    go_wp2_with fail
    go_ret2
    exact ⟨rfl, ⟨rfl, rfl, rfl, Nat.le_refl _, fun _ _ => rfl⟩⟩
  have hpos : 0 < D.size := by omega
  have hE := isEmpty_size hpos
  clear h0
  by_cases h9 : 9 < D.size
  · rw [rDig_bad (.inr (.inl h9))]
    have h9' : (9 : Int) < D.size := by omega
    clear h9
    go_enter Tryd.func24, Tryd.ntmps24
    go_wp2_with fail
    go_quiet (fail)
    go_wp2_with fail
    go_ret2
    exact ⟨rfl, ⟨rfl, rfl, rfl, Nat.le_refl _, fun _ _ => rfl⟩⟩
  by_cases hz : D[0].toNat = 48 ∧ (1 < D.size ∨ true = true)
  · rw [rDig_bad (.inr (.inr ⟨hpos, hz⟩))]
    obtain ⟨hz1, hz2⟩ := hz
    clear hz2
    go_enter Tryd.func24, Tryd.ntmps24
    go_wp2_with fail
    go_quiet (fail)
    go_wp2_with fail
    all_goals go_ret2
    all_goals exact ⟨rfl, ⟨rfl, rfl, rfl, Nat.le_refl _, fun _ _ => rfl⟩⟩
  have hz' : D[0].toNat = 48 → D.size = 1 ∧ true = false := fun e => by
    have : ¬ (1 < D.size ∨ true = true) := fun e2 => hz ⟨e, e2⟩
    refine ⟨by omega, ?_⟩
    cases h : true with
    | true => exact absurd (.inr h) this
    | false => rfl
  have h9' : D.size ≤ 9 := by omega
  have HR := hide (rDig_good hpos h9' hz')
  clear h9 hz
  have hh : ¬ D[0].toNat = 48 := fun e => by have := (hz' e).2; cases this
  clear hz'
  go_enter Tryd.func24, Tryd.ntmps24
  go_wp2_with fail
  go_quiet (fail)
  go_wp2_with fail
  go_loopw [6, 7] (fun n i wr => ∃ k m : Nat, k ≤ D.size ∧ i = .int .i64 k ∧ n = .int .i64 m ∧ m < 1000000000 ∧ Below w.heap.size w wr ∧ Hid (m = valOf 0 (D.data.toList.take k) ∧ (D.data.toList.take k).all rIsDig = true)) (fun _ i _ => D.size - (intOf i).toNat)
  case atStart => exact ⟨0, 0, Nat.zero_le _, rfl, rfl, by decide, ⟨rfl, rfl, rfl, Nat.le_refl _, fun _ _ => rfl⟩, by simp [Hid, valOf_nil]⟩
  case round =>
    obtain ⟨k, m, hk, rfl, rfl, hm, hb, HM⟩ := hrel
    by_cases hlt : k < D.size
    · have hwr : wrap64 ((D[k].toNat : Nat) : Int) = ((D[k].toNat : Nat) : Int) := by
        have := UInt8.toNat_lt D[k]
        unfold wrap64
        omega
      have hc8 := UInt8.toNat_lt D[k]
      by_cases hd : 48 ≤ D[k].toNat ∧ D[k].toNat ≤ 57
      · have HS := hide (val_step D k hlt h9' HM.out.2 (by simp [rIsDig, hd]))
        have HM1 := hide HM.out.1
        clear HM
        obtain ⟨hd1, hd2⟩ := hd
        go_wp2_with fail
        refine (bt 48 _ 57 _ (by omega) (by omega)).mono ?_
        rintro e w1 ⟨rfl, rfl⟩
        go_wp2_with fail
        go_roundw
        case rel => exact ⟨k + 1, 10 * m + (D[k].toNat - 48), by omega, by go_num, by congr 1; omega, by rw [HM1.out, ← HS.out.2.1]; exact HS.out.2.2, hb, by rw [Hid, HS.out.2.1, HM1.out]; exact ⟨rfl, HS.out.1⟩⟩
        case measure => simp [intOf]; omega
      · have HB : Hid (D.data.toList.all rIsDig = false) := by
          rw [Hid, ← List.take_append_drop (k + 1) D.data.toList, List.all_append, take_get D k hlt, List.all_append]
          simp [rIsDig, hd]
        have hd' : ((D[k].toNat : Nat) : Int) < 48 ∨ 57 < ((D[k].toNat : Nat) : Int) := by omega
        clear hd
        go_wp2_with fail
        refine (bf 48 _ 57 _ hd').mono ?_
        rintro e w1 ⟨rfl, rfl⟩
        go_wp2_with fail
        go_ret2
        rw [HR.out, HB.out]
        exact ⟨rfl, hb⟩
    · have hkk : k = D.size := by omega
      subst hkk
      have HV : Hid (rDig true D.data.toList = some m) := by
        have h1 := HM.out
        rw [List.take_of_length_le (by rw [size_list]; omega)] at h1
        rw [Hid, HR.out, h1.2, ← h1.1]
        rfl
      go_wp2_with fail
      go_ret2
      rw [HV.out]
      exact ⟨by simp [intRet], hb⟩

set_option maxRecDepth 100000 in
set_option maxHeartbeats 4000000 in
theorem intOf_pos (s : ByteArray) (w : World) (h0s : ∀ h : 0 < s.size, ¬ s[0].toNat = 45) :
    Calls Tryd.prog 24 #[.string s] w fun e w' => e = intRet ((rDig false s.data.toList).map (fun u : Nat => (u : Int))) ∧ Below w.heap.size w w' := by
  have h45 := h0s
  clear h0s
  by_cases h0 : s.size = 0
  · rw [rDig_bad (.inl h0)]
    have hE := isEmpty_zero h0
    go_enter Tryd.func24, Tryd.ntmps24
    go_wp2_with fail
    go_ret2
    exact ⟨rfl, Below.refl _ w⟩
  have hpos : 0 < s.size := by omega
  have hq45 := h45 hpos
  have hE := isEmpty_size hpos
  clear h0
  by_cases h9 : 9 < s.size
  · rw [rDig_bad (.inr (.inl h9))]
    have h9' : (9 : Int) < s.size := by omega
    clear h9
    go_enter Tryd.func24, Tryd.ntmps24
    go_wp2_with fail
    go_ret2
    exact ⟨rfl, Below.refl _ w⟩
  by_cases hz : s[0].toNat = 48 ∧ (1 < s.size ∨ false = true)
  · rw [rDig_bad (.inr (.inr ⟨hpos, hz⟩))]
    obtain ⟨hz1, hz2⟩ := hz
    have h45' := h45 hpos
    have hz3 : (1 : Int) < s.size := by rcases hz2 with h | h; omega; cases h
    clear hz2 h45
    go_enter Tryd.func24, Tryd.ntmps24
    go_wp2_with fail
    all_goals go_ret2
    all_goals exact ⟨rfl, Below.refl _ w⟩
  have hz' : s[0].toNat = 48 → s.size = 1 ∧ false = false := fun e => by
    have : ¬ (1 < s.size ∨ false = true) := fun e2 => hz ⟨e, e2⟩
    refine ⟨by omega, ?_⟩
    cases h : false with
    | true => exact absurd (.inr h) this
    | false => rfl
  have h9' : s.size ≤ 9 := by omega
  have HR := hide (rDig_good hpos h9' hz')
  clear h9 hz
  have h45' := h45 hpos
  clear h45 hq45
  by_cases hh : s[0].toNat = 48
  · have hs1 : ¬ (1 : Int) < s.size := by have := (hz' hh).1; omega
    clear hz'
    go_enter Tryd.func24, Tryd.ntmps24
    go_wp2_with fail
    go_loopw [6, 7] (fun n i wr => ∃ k m : Nat, k ≤ s.size ∧ i = .int .i64 k ∧ n = .int .i64 m ∧ m < 1000000000 ∧ Below w.heap.size w wr ∧ Hid (m = valOf 0 (s.data.toList.take k) ∧ (s.data.toList.take k).all rIsDig = true)) (fun _ i _ => s.size - (intOf i).toNat)
    case atStart => exact ⟨0, 0, Nat.zero_le _, rfl, rfl, by decide, Below.refl _ w, by simp [Hid, valOf_nil]⟩
    case round =>
      obtain ⟨k, m, hk, rfl, rfl, hm, hb, HM⟩ := hrel
      by_cases hlt : k < s.size
      · have hwr : wrap64 ((s[k].toNat : Nat) : Int) = ((s[k].toNat : Nat) : Int) := by
          have := UInt8.toNat_lt s[k]
          unfold wrap64
          omega
        have hc8 := UInt8.toNat_lt s[k]
        by_cases hd : 48 ≤ s[k].toNat ∧ s[k].toNat ≤ 57
        · have HS := hide (val_step s k hlt h9' HM.out.2 (by simp [rIsDig, hd]))
          have HM1 := hide HM.out.1
          clear HM
          obtain ⟨hd1, hd2⟩ := hd
          go_wp2_with fail
          refine (bt 48 _ 57 _ (by omega) (by omega)).mono ?_
          rintro e w1 ⟨rfl, rfl⟩
          go_wp2_with fail
          go_roundw
          case rel => exact ⟨k + 1, 10 * m + (s[k].toNat - 48), by omega, by go_num, by congr 1; omega, by rw [HM1.out, ← HS.out.2.1]; exact HS.out.2.2, hb, by rw [Hid, HS.out.2.1, HM1.out]; exact ⟨rfl, HS.out.1⟩⟩
          case measure => simp [intOf]; omega
        · have HB : Hid (s.data.toList.all rIsDig = false) := by
            rw [Hid, ← List.take_append_drop (k + 1) s.data.toList, List.all_append, take_get s k hlt, List.all_append]
            simp [rIsDig, hd]
          have hd' : ((s[k].toNat : Nat) : Int) < 48 ∨ 57 < ((s[k].toNat : Nat) : Int) := by omega
          clear hd
          go_wp2_with fail
          refine (bf 48 _ 57 _ hd').mono ?_
          rintro e w1 ⟨rfl, rfl⟩
          go_wp2_with fail
          go_ret2
          rw [HR.out, HB.out]
          exact ⟨rfl, hb⟩
      · have hkk : k = s.size := by omega
        subst hkk
        have HV : Hid (rDig false s.data.toList = some m) := by
          have h1 := HM.out
          rw [List.take_of_length_le (by rw [size_list]; omega)] at h1
          rw [Hid, HR.out, h1.2, ← h1.1]
          rfl
        go_wp2_with fail
        go_ret2
        rw [HV.out]
        exact ⟨by simp [intRet], hb⟩
  · clear hz'
    go_enter Tryd.func24, Tryd.ntmps24
    go_wp2_with fail
    go_loopw [6, 7] (fun n i wr => ∃ k m : Nat, k ≤ s.size ∧ i = .int .i64 k ∧ n = .int .i64 m ∧ m < 1000000000 ∧ Below w.heap.size w wr ∧ Hid (m = valOf 0 (s.data.toList.take k) ∧ (s.data.toList.take k).all rIsDig = true)) (fun _ i _ => s.size - (intOf i).toNat)
    case atStart => exact ⟨0, 0, Nat.zero_le _, rfl, rfl, by decide, Below.refl _ w, by simp [Hid, valOf_nil]⟩
    case round =>
      obtain ⟨k, m, hk, rfl, rfl, hm, hb, HM⟩ := hrel
      by_cases hlt : k < s.size
      · have hwr : wrap64 ((s[k].toNat : Nat) : Int) = ((s[k].toNat : Nat) : Int) := by
          have := UInt8.toNat_lt s[k]
          unfold wrap64
          omega
        have hc8 := UInt8.toNat_lt s[k]
        by_cases hd : 48 ≤ s[k].toNat ∧ s[k].toNat ≤ 57
        · have HS := hide (val_step s k hlt h9' HM.out.2 (by simp [rIsDig, hd]))
          have HM1 := hide HM.out.1
          clear HM
          obtain ⟨hd1, hd2⟩ := hd
          go_wp2_with fail
          refine (bt 48 _ 57 _ (by omega) (by omega)).mono ?_
          rintro e w1 ⟨rfl, rfl⟩
          go_wp2_with fail
          go_roundw
          case rel => exact ⟨k + 1, 10 * m + (s[k].toNat - 48), by omega, by go_num, by congr 1; omega, by rw [HM1.out, ← HS.out.2.1]; exact HS.out.2.2, hb, by rw [Hid, HS.out.2.1, HM1.out]; exact ⟨rfl, HS.out.1⟩⟩
          case measure => simp [intOf]; omega
        · have HB : Hid (s.data.toList.all rIsDig = false) := by
            rw [Hid, ← List.take_append_drop (k + 1) s.data.toList, List.all_append, take_get s k hlt, List.all_append]
            simp [rIsDig, hd]
          have hd' : ((s[k].toNat : Nat) : Int) < 48 ∨ 57 < ((s[k].toNat : Nat) : Int) := by omega
          clear hd
          go_wp2_with fail
          refine (bf 48 _ 57 _ hd').mono ?_
          rintro e w1 ⟨rfl, rfl⟩
          go_wp2_with fail
          go_ret2
          rw [HR.out, HB.out]
          exact ⟨rfl, hb⟩
      · have hkk : k = s.size := by omega
        subst hkk
        have HV : Hid (rDig false s.data.toList = some m) := by
          have h1 := HM.out
          rw [List.take_of_length_le (by rw [size_list]; omega)] at h1
          rw [Hid, HR.out, h1.2, ← h1.1]
          rfl
        go_wp2_with fail
        go_ret2
        rw [HV.out]
        exact ⟨by simp [intRet], hb⟩

/-- the reference reads a number as the program does -/
theorem intOf_any (s : ByteArray) (w : World) :
    Calls Tryd.prog 24 #[.string s] w fun e w' => e = intRet (pInt s.data.toList) ∧ Below w.heap.size w w' := by
  rw [← rInt_eq]
  cases hl : s.data.toList with
  | nil =>
    have hz : s.size = 0 := by rw [← size_list, hl]; rfl
    have := intOf_pos s w (fun h => by omega)
    rw [hl] at this
    exact this
  | cons c r =>
    have hpos : 0 < s.size := by rw [← size_list, hl]; simp
    have h0 := head_get s hpos
    rw [hl] at h0
    simp at h0
    rw [rInt]
    split
    · rename_i hc
      subst hc
      have := intOf_neg s ⟨r.toArray⟩ w r hl rfl
      rw [toList_mk] at this
      exact this
    · rename_i hc
      have := intOf_pos s w (fun h e => hc (by rw [h0]; exact UInt8.toNat_inj.mp (by simpa using e)))
      rw [hl] at this
      exact this
end Go.Proofs.YtolpmaapdkhigabDoor
