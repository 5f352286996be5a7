/- WALKS of the encoding of single replies. -/
import Derived.Test.YtolpmaapdkhigaaDoorCheck2
import Derived.Test.YtolpmaapdkhigaaDoorBuild1
import Derived.Deep.RegionWith
namespace Go.Proofs.YtolpmaapdkhigaaDoor
open Go.RowKit

/-- strconv.Itoa answers, in every world that is as w0 below block B. -/
def ItoaOk (B : Nat) (w0 : World) (n : Int) : Prop :=
  ∀ w1, Below B w0 w1 → Calls Tryd.prog 21 #[.int .i64 n] w1 fun e w' => e = .returned (.string ⟨(Lib.itoa n).toArray⟩) ∧ Below w1.heap.size w1 w'

theorem itoaOk_small (B : Nat) (w0 : World) (n : Nat) (h : n < 100) : ItoaOk B w0 n := by
  intro w1 _
  refine (Tryd.strconv_Itoa_small n h w1).mono ?_
  rintro e w' ⟨rfl, rfl⟩
  refine ⟨?_, Below.refl _ _⟩
  rw [Lib.itoa, if_neg (by omega), Int.toNat_natCast]

/-- the bytes of a single reply -/
def pEnc1 (k : Int) (t : List UInt8) (n : Int) : List UInt8 :=
  if k = 1 then 43 :: (t ++ [13, 10]) else if k = 2 then 45 :: (Lib.itoa n ++ [13, 10]) else if k = 3 then 58 :: (Lib.itoa n ++ [13, 10]) else
  if k = 4 then 36 :: (Lib.itoa t.length ++ 13 :: 10 :: (t ++ [13, 10])) else [36, 45, 49, 13, 10]

theorem ba_ext {a : ByteArray} {l : List UInt8} (h : a.data.toList = l) : a = ⟨l.toArray⟩ := by
  cases a with
  | mk d => simp only at h; rw [← h]

set_option maxRecDepth 100000 in
set_option maxHeartbeats 1000000 in
theorem encSingle_any (B : Nat) (w0 : World) (k : Int) (t : ByteArray) (n : Int) (a : Option Addr) (len cap : Nat) (w : World) (hw : Below B w0 w) (hB : B ≤ w.heap.size) (ht : t.size ≤ 281474976710656)
    (hn : k = 2 ∨ k = 3 → ItoaOk B w0 n ∧ (Lib.itoa n).length ≤ 20) (h4 : k = 4 → ItoaOk B w0 t.size ∧ (Lib.itoa t.size).length ≤ 20) :
    Calls Tryd.prog 19 #[.agg #[.int .i64 k, .string t, .int .i64 n, .slice a len cap]] w fun e w' => e = .returned (.string ⟨(pEnc1 k t.data.toList n).toArray⟩) ∧ Below w.heap.size w w' := by
  have hw1 : ∀ o, Below B w0 (w.alloc o) := fun o => hw.alloc hB o
  have HW := hide hw1
  clear hw1 hw
  by_cases k1 : k = 1
  · subst k1
    have HP : Hid (pEnc1 1 t.data.toList n = 43 :: (t.data.toList ++ [13, 10])) := by rw [Hid, pEnc1, if_pos rfl]
    clear hn h4
    go_enter Tryd.func19, Tryd.ntmps19
    go_wp2
    go_ret
    refine ⟨?_, (Below.refl _ _).alloc (Nat.le_refl _) _⟩
    rw [HP.out]
    exact congrArg (fun x => Ending.returned (.string x)) (ba_ext (by simp))
  · by_cases k2 : k = 2
    · subst k2
      have HP : Hid (pEnc1 2 t.data.toList n = 45 :: (Lib.itoa n ++ [13, 10])) := by rw [Hid, pEnc1, if_neg (by decide), if_pos rfl]
      obtain ⟨hI, hL⟩ := hn (.inl rfl)
      have HI := hide hI
      clear hn h4 k1 hI
      go_enter Tryd.func19, Tryd.ntmps19
      go_wp2_with (go_at_call 21; refine (HI.out _ (HW.out _)).mono ?_; rintro e w1 ⟨rfl, hb1⟩)
      go_ret
      refine ⟨?_, ((Below.refl _ w).alloc (Nat.le_refl _) _).trans (hb1.mono (by simp))⟩
      rw [HP.out]
      exact congrArg (fun x => Ending.returned (.string x)) (ba_ext (by simp))
    · by_cases k3 : k = 3
      · subst k3
        have HP : Hid (pEnc1 3 t.data.toList n = 58 :: (Lib.itoa n ++ [13, 10])) := by rw [Hid, pEnc1, if_neg (by decide), if_neg (by decide), if_pos rfl]
        obtain ⟨hI, hL⟩ := hn (.inr rfl)
        have HI := hide hI
        clear hn h4 k1 k2 hI
        go_enter Tryd.func19, Tryd.ntmps19
        go_wp2_with (go_at_call 21; refine (HI.out _ (HW.out _)).mono ?_; rintro e w1 ⟨rfl, hb1⟩)
        go_ret
        refine ⟨?_, ((Below.refl _ w).alloc (Nat.le_refl _) _).trans (hb1.mono (by simp))⟩
        rw [HP.out]
        exact congrArg (fun x => Ending.returned (.string x)) (ba_ext (by simp))
      · by_cases k4 : k = 4
        · subst k4
          have HP : Hid (pEnc1 4 t.data.toList n = 36 :: (Lib.itoa t.size ++ 13 :: 10 :: (t.data.toList ++ [13, 10]))) := by rw [Hid, pEnc1, if_neg (by decide), if_neg (by decide), if_neg (by decide), if_pos rfl, size_list]
          obtain ⟨hI, hL⟩ := h4 rfl
          have HI := hide hI
          clear hn h4 k1 k2 k3 hI
          go_enter Tryd.func19, Tryd.ntmps19
          go_wp2
          go_region_with (go_at_call 21; refine (HI.out _ (HW.out _).drew).mono ?_; rintro e w1 ⟨rfl, hb1⟩; have hc1 : w1.cell? ⟨w.heap.size, 1, none⟩ = some (.string t) := (Kept.of_below hb1 (fun _ => False)).cell' (by simp [go_sem]) (fun e => e))
          all_goals
            go_wp2
            go_ret
            refine ⟨?_, ((Below.refl _ w).alloc (Nat.le_refl _) _).trans (Below.mono ⟨hb1.os, hb1.tape, hb1.output, hb1.size, hb1.block⟩ (by simp))⟩
            rw [HP.out]
            exact congrArg (fun x => Ending.returned (.string x)) (ba_ext (by simp))
        · have HP : Hid (pEnc1 k t.data.toList n = [36, 45, 49, 13, 10]) := by rw [Hid, pEnc1, if_neg k1, if_neg k2, if_neg k3, if_neg k4]
          clear hn h4
          have e1 : (k == 1) = false := by simpa using k1
          have e2 : (k == 2) = false := by simpa using k2
          have e3 : (k == 3) = false := by simpa using k3
          have e4 : (k == 4) = false := by simpa using k4
          go_enter Tryd.func19, Tryd.ntmps19
          go_wp2
          go_ret
          refine ⟨?_, (Below.refl _ _).alloc (Nat.le_refl _) _⟩
          rw [HP.out]
          rfl
end Go.Proofs.YtolpmaapdkhigaaDoor
