/- WALK of the reference's bytes of an item: its texts. -/
import Derived.Test.YtolpmaapdkhigabRByt
import Derived.Handy
namespace Go.Proofs.Ytolpmaapdkhigab
open Go.RowKit

theorem u8_eq {a b : Nat} (h : a % 256 = b % 256) : UInt8.ofNat a = UInt8.ofNat b := by
  apply UInt8.toNat_inj.1
  rw [ofNat_nat, ofNat_nat, h]
theorem bytes_of (s : ByteArray) : (⟨s.data.toList.toArray⟩ : ByteArray) = s := by
  cases s
  simp
set_option maxRecDepth 100000 in
set_option maxHeartbeats 16000000 in
theorem itemBytes_many (k : Int) (t : ByteArray) (a1 a2 a3 : Option Addr) (c1 c2 c3 : Nat) (xl : List ByteArray) (xp : List (ByteArray × ByteArray)) (xs : List (Int × ByteArray)) (w : World) (hk1 : 2 ≤ k) (hk5 : k ≤ 5) (ht1 : TextsAt w a1 xl) (hl1 : xl.length ≤ 24) (hl2 : xp.length ≤ 24) (hl3 : xs.length ≤ 24) (hz1 : ∀ t ∈ xl, t.size ≤ 60) (ht2 : PairsAt w a2 xp) (hz2 : ∀ t ∈ xp, t.1.size ≤ 60 ∧ t.2.size ≤ 60) (hp2 : ∀ t ∈ xp, (encP t).length ≤ 200) (ht3 : ScoresAt w a3 xs) (hz3 : ∀ t ∈ xs, t.2.size ≤ 60 ∧ -999999999 ≤ t.1 ∧ t.1 ≤ 999999999) (hp3 : ∀ t ∈ xs, (encS t).length ≤ 200) :
    Calls Try.prog 11 #[.agg #[.int .i64 k, .string t, .slice a1 xl.length c1, .slice a2 xp.length c2, .slice a3 xs.length c3]] w fun e w' => e = .returned (.string ⟨([UInt8.ofNat k.toNat, UInt8.ofNat (xl.length + xp.length + xs.length)] ++ (xl.map encT).flatten ++ (xp.map encP).flatten ++ (xs.map encS).flatten).toArray⟩) ∧ Below w.heap.size w w' := by
  have HT1 := hide ht1
  have HZ1 := hide hz1
  have HT2 := hide ht2
  have HZ2 := hide hz2
  have HP2 := hide hp2
  have HT3 := hide ht3
  have HZ3 := hide hz3
  have HP3 := hide hp3
  have hF2 : ((xp.map encP).flatten).length ≤ 4800 := by have := flat_len encP 200 xp hp2; omega
  have hF1 : ((xl.map encT).flatten).length ≤ 4800 := by have := flat_len encT 200 xl (fun t ht => encT_len (hz1 t ht)); omega
  have hk2 : (k == 1) = false := by rw [beq_eq_false_iff_ne]; omega
  clear ht1 hz1 ht2 hz2 hp2 ht3 hz3 hp3
  go_enter Try.func11, Try.ntmps11
  go_wp2_with fail
  refine (refOneB_any k _ (by omega) (by omega)).mono ?_
  rintro e w1 ⟨rfl, hb1⟩
  have X1 := hide ((BoxAt.new w (.int .i64 k) (.string t) (.slice a1 xl.length c1) (.slice a2 xp.length c2) (.slice a3 xs.length c3) 31).below hb1)
  have B1 : Below w.heap.size w w1 := ((Below.refl _ w).alloc (Nat.le_refl _) _).trans (hb1.mono (by simp))
  obtain ⟨x0, x1, x2, x3, x4, xlt⟩ := X1.out
  clear hb1
  go_wp2_with fail
  clear x0 x1 x2 x3 x4 xlt
  refine (refOneB_any (((xl.length : Nat) : Int) + ((xp.length : Nat) : Int) + ((xs.length : Nat) : Int)) _ (by omega) (by omega)).mono ?_
  rintro e w2 ⟨rfl, hb2⟩
  have X2 := hide (X1.out.below hb2)
  have B2 : Below w.heap.size w w2 := B1.trans (hb2.mono B1.size)
  clear hb2 X1 B1
  generalize hA0 : (⟨#[UInt8.ofNat k.toNat]⟩ : ByteArray) = A1
  generalize hA1 : (⟨#[UInt8.ofNat (((xl.length : Nat) : Int) + ((xp.length : Nat) : Int) + ((xs.length : Nat) : Int)).toNat]⟩ : ByteArray) = A2
  have s1 : A1.size = 1 := by rw [← hA0]; rfl
  have s2 : A2.size = 1 := by rw [← hA1]; rfl
  have hj : ¬ 9223372036854775807 < A1.size + A2.size := by omega
  have HA : Hid ((A1 ++ A2).data.toList = [UInt8.ofNat k.toNat, UInt8.ofNat (xl.length + xp.length + xs.length)]) := by
    rw [Hid, list_append, ← hA0, ← hA1]
    have : (((xl.length : Nat) : Int) + ((xp.length : Nat) : Int) + ((xs.length : Nat) : Int)).toNat = xl.length + xp.length + xs.length := by omega
    rw [this]
    rfl
  clear hA0 hA1 s1 s2
  go_wp2_with fail
  generalize hAA : A1 ++ A2 = AA at *
  clear hAA hj
  go_loopw [3, 4] (fun v i wr => ∃ (j : Nat) (A : ByteArray), j ≤ xl.length ∧ i = .int .i64 j ∧ v = .string A ∧ Hid (A.data.toList = [UInt8.ofNat k.toNat, UInt8.ofNat (xl.length + xp.length + xs.length)] ++ ((xl.take j).map encT).flatten) ∧ Below w2.heap.size w2 wr) (fun _ i _ => xl.length - (intOf i).toNat)
  case atStart => exact ⟨0, AA, by omega, rfl, rfl, by rw [Hid, HA.out]; rfl, Below.refl _ _⟩
  case round =>
    obtain ⟨j, A, hj, rfl, rfl, HAj, hbr⟩ := hrel
    have XR := hide (X2.out.below hbr)
    have BR : Below w.heap.size w wr := B2.trans (hbr.mono B2.size)
    have hAz : A.size ≤ 20000 := by
      rw [← size_list, HAj.out, List.length_append]
      have h1 := flat_len encT 200 (xl.take j) (fun a ha => encT_len (HZ1.out a (List.mem_of_mem_take ha)))
      rw [List.length_take] at h1
      have h2 : min j xl.length ≤ 24 := by omega
      simp only [List.length_cons, List.length_nil]
      omega
    by_cases hlt : j < xl.length
    · have hlt' : ((j : Nat) : Int) < ((xl.length : Nat) : Int) := by omega
      obtain ⟨g, o, rfl, hcs⟩ : ∃ g o, a1 = some ⟨g, o, none⟩ ∧ ∀ i (h : i < xl.length), w.cell? ⟨g, o + i, none⟩ = some (.string xl[i]) := by
        rcases HT1.out with h | h
        · subst h; simp at hlt
        · exact h
      have d0 := (BR.cell (p := ⟨g, o + j, none⟩) (World.block_lt_of_cell? _ _ (hcs j hlt))).trans (hcs j hlt)
      have hz60 : xl[j].size ≤ 60 := HZ1.out _ (List.getElem_mem hlt)
      have HS := hide (flat_take encT xl hlt)
      clear hcs HT1 HZ1
      generalize xl[j] = X at *
      have HO : Hid (∀ W, Calls Try.prog 32 #[.int .i64 X.size] W fun e w' => e = .returned (.string ⟨#[UInt8.ofNat X.size]⟩) ∧ Below W.heap.size W w') := fun W => by
        have hh := refOneB_any X.size W (by omega) (by omega)
        rw [Int.toNat_natCast] at hh
        exact hh
      obtain ⟨x0, x1, x2, x3, x4, xlt⟩ := XR.out
      have HSS : Hid (∀ W, Below wr.heap.size wr W → (fun w' => w'.cell? ⟨w.heap.size, 2, none⟩ = some (.slice (some ⟨g, o, none⟩) xl.length c1) ∧ w'.cell? ⟨g, o + j, none⟩ = some (.string X)) W) := fun W hW => ⟨(hW.cell (p := ⟨w.heap.size, 2, none⟩) xlt).trans x2, (hW.cell (p := ⟨g, o + j, none⟩) (World.block_lt_of_cell? _ _ d0)).trans d0⟩
      have C0 : Below wr.heap.size wr wr.drew := (Below.refl _ wr).drew
      have o1 : (⟨#[UInt8.ofNat X.size]⟩ : ByteArray).size = 1 := rfl
      have j1 : ¬ 9223372036854775807 < (⟨#[UInt8.ofNat X.size]⟩ : ByteArray).size + X.size := by omega
      have j2 : ¬ 9223372036854775807 < A.size + ((⟨#[UInt8.ofNat X.size]⟩ : ByteArray) ++ X).size := by rw [ByteArray.size_append]; omega
      have HBT := hide (bytes_text A X)
      go_wp2_with fail
      refine wp_region_held_drew (S := (fun w' => w'.cell? ⟨w.heap.size, 2, none⟩ = some (.slice (some ⟨g, o, none⟩) xl.length c1) ∧ w'.cell? ⟨g, o + j, none⟩ = some (.string X))) (by kernel_rfl) (HSS.out _ C0) (fun hHeld => ?_)
      refine wpAnyH_take (i := 0) (v := .string A) rfl (by kernel_rfl) (by kernel_rfl) (by kernel_rfl) (fun _ _ _ h => h) (Or.inl ⟨by kernel_rfl, by intro w hSw; (try dsimp only at hSw); go_simp⟩) (by assumption) ?_
      refine wpAnyH_take (i := 1) (v := .pointer (some ⟨w.heap.size, 2, none⟩)) rfl (by kernel_rfl) (by kernel_rfl) (by kernel_rfl) (fun _ _ _ h => h) (Or.inl ⟨by kernel_rfl, by intro w hSw; (try dsimp only at hSw); go_simp⟩) (by assumption) ?_
      refine wpAnyH_take (i := 2) (v := .slice (some ⟨g, o, none⟩) xl.length c1) rfl (by kernel_rfl) (by kernel_rfl) (by kernel_rfl) (fun _ _ _ h => h) (Or.inl ⟨by kernel_rfl, by intro w hSw; (try dsimp only at hSw); go_simp⟩) (by assumption) ?_
      refine wpAnyH_take (i := 3) (v := .int .i64 j) rfl (by kernel_rfl) (by kernel_rfl) (by kernel_rfl) (fun _ _ _ h => h) (Or.inl ⟨by kernel_rfl, by intro w hSw; (try dsimp only at hSw); go_simp⟩) (by assumption) ?_
      refine wpAnyH_take (i := 4) (v := .pointer (some ⟨g, o + j, none⟩)) rfl (by kernel_rfl) (by kernel_rfl) (by kernel_rfl) (fun _ _ _ h => h) (Or.inl ⟨by kernel_rfl, by intro w hSw; (try dsimp only at hSw); go_simp⟩) (by assumption) ?_
      refine wpAnyH_take (i := 5) (v := .string X) rfl (by kernel_rfl) (by kernel_rfl) (by kernel_rfl) (fun _ _ _ h => h) (Or.inl ⟨by kernel_rfl, by intro w hSw; (try dsimp only at hSw); go_simp⟩) (by assumption) ?_
      refine wpAnyH_take (i := 6) (v := .int .i64 X.size) rfl (by kernel_rfl) (by kernel_rfl) (by kernel_rfl) (fun _ _ _ h => h) (Or.inl ⟨by kernel_rfl, by intro w hSw; (try dsimp only at hSw); go_simp⟩) (by assumption) ?_
      refine wpAnyH_take (i := 8) (v := .pointer (some ⟨w.heap.size, 2, none⟩)) rfl (by kernel_rfl) (by kernel_rfl) (by kernel_rfl) (fun _ _ _ h => h) (Or.inl ⟨by kernel_rfl, by intro w hSw; (try dsimp only at hSw); go_simp⟩) (by assumption) ?_
      refine wpAnyH_take (i := 9) (v := .slice (some ⟨g, o, none⟩) xl.length c1) rfl (by kernel_rfl) (by kernel_rfl) (by kernel_rfl) (fun _ _ _ h => h) (Or.inl ⟨by kernel_rfl, by intro w hSw; (try dsimp only at hSw); go_simp⟩) (by assumption) ?_
      refine wpAnyH_take (i := 10) (v := .int .i64 j) rfl (by kernel_rfl) (by kernel_rfl) (by kernel_rfl) (fun _ _ _ h => h) (Or.inl ⟨by kernel_rfl, by intro w hSw; (try dsimp only at hSw); go_simp⟩) (by assumption) ?_
      refine wpAnyH_take (i := 11) (v := .pointer (some ⟨g, o + j, none⟩)) rfl (by kernel_rfl) (by kernel_rfl) (by kernel_rfl) (fun _ _ _ h => h) (Or.inl ⟨by kernel_rfl, by intro w hSw; (try dsimp only at hSw); go_simp⟩) (by assumption) ?_
      refine wpAnyH_take (i := 12) (v := .string X) rfl (by kernel_rfl) (by kernel_rfl) (by kernel_rfl) (fun _ _ _ h => h) (Or.inl ⟨by kernel_rfl, by intro w hSw; (try dsimp only at hSw); go_simp⟩) (by assumption) ?_
      refine wpAnyH_ready (rs := [7]) (by kernel_rfl) (by simp) ?_
      refine AllReadyH.cons rfl (fun K hK => ?_) AllReadyH.nil
      go_simp
      refine (HO.out _).mono ?_
      rintro e w4 ⟨rfl, hbw4⟩
      have Cw4 : Below wr.heap.size wr w4 := C0.trans (hbw4.mono C0.size)
      refine hK.out _ _ (HSS.out _ Cw4) (fun hHeld => ?_)
      clear hK K hHeld
      have hHeld := HSS.out _ Cw4
      refine wpAnyH_take (i := 13) (v := .string (⟨#[UInt8.ofNat X.size]⟩ ++ X)) rfl (by kernel_rfl) (by kernel_rfl) (by kernel_rfl) (fun _ _ _ h => h) (Or.inl ⟨by kernel_rfl, by intro w hSw; (try dsimp only at hSw); go_simp; omega⟩) (by assumption) ?_
      refine wpAnyH_take (i := 14) (v := .string (A ++ (⟨#[UInt8.ofNat X.size]⟩ ++ X))) rfl (by kernel_rfl) (by kernel_rfl) (by kernel_rfl) (fun _ _ _ h => h) (Or.inl ⟨by kernel_rfl, by intro w hSw; (try dsimp only at hSw); go_simp; omega⟩) (by assumption) ?_
      refine wpAnyH_take (i := 15) (v := .string (A ++ (⟨#[UInt8.ofNat X.size]⟩ ++ X))) rfl (by kernel_rfl) (by kernel_rfl) (by kernel_rfl) (fun _ _ _ h => h) (Or.inl ⟨by kernel_rfl, by intro w hSw; (try dsimp only at hSw); go_simp⟩) (by assumption) ?_
      refine wpAnyH_done (by kernel_rfl) ?_ _
      generalize hBB : A ++ (⟨#[UInt8.ofNat X.size]⟩ ++ X) = BB at *
      have HBB : Hid (BB.data.toList = A.data.toList ++ encT X) := by rw [Hid, HBT.out, toList_mk]
      clear hBB HBT x0 x1 x2 x3 x4 xlt hHeld HSS j1 j2 o1 d0
      go_wp2_with fail
      go_roundw
      case rel => exact ⟨j + 1, BB, by omega, by go_num, rfl, by rw [Hid, HBB.out, HAj.out, HS.out, List.append_assoc], hbr.trans (Cw4.mono hbr.size)⟩
      case measure => simp [intOf]; omega
    · have hge : ¬ ((j : Nat) : Int) < ((xl.length : Nat) : Int) := by omega
      obtain rfl : j = xl.length := by omega
      rw [List.take_length] at HAj
      have X2' := X2
      obtain ⟨x0, x1, x2, x3, x4, xlt⟩ := XR.out
      have hHA := hAz
      go_wp2_with fail
      clear x0 x1 x2 x3 x4 xlt XR HT1 X2 BR
      clear hHA
      go_loopw [3, 5] (fun v i wr => ∃ (j : Nat) (A : ByteArray), j ≤ xp.length ∧ i = .int .i64 j ∧ v = .string A ∧ Hid (A.data.toList = ([UInt8.ofNat k.toNat, UInt8.ofNat (xl.length + xp.length + xs.length)] ++ (xl.map encT).flatten) ++ ((xp.take j).map encP).flatten) ∧ Below w2.heap.size w2 wr) (fun _ i _ => xp.length - (intOf i).toNat)
      case atStart => exact ⟨0, A, by omega, rfl, rfl, by rw [Hid, HAj.out]; simp, hbr⟩
      case round =>
        clear HAj hbr hj hlt hge hAz
        obtain ⟨j, A, hj, rfl, rfl, HAj, hbr⟩ := hrel
        have XR := hide (X2'.out.below hbr)
        have BR : Below w.heap.size w wr := B2.trans (hbr.mono B2.size)
        have hAz : A.size ≤ 20000 := by
          rw [← size_list, HAj.out, List.length_append]
          have h1 := flat_len encP 200 (xp.take j) (fun a ha => HP2.out a (List.mem_of_mem_take ha))
          rw [List.length_take] at h1
          have h2 : min j xp.length ≤ 24 := by omega
          simp only [List.length_append, List.length_cons, List.length_nil]
          omega
        by_cases hlt : j < xp.length
        · have hlt' : ((j : Nat) : Int) < ((xp.length : Nat) : Int) := by omega
          obtain ⟨g, o, rfl, hcs⟩ : ∃ g o, a2 = some ⟨g, o, none⟩ ∧ ∀ i (h : i < xp.length), w.cell? ⟨g, o + i * 2, none⟩ = some (.string xp[i].1) ∧ w.cell? ⟨g, o + i * 2 + 1, none⟩ = some (.string xp[i].2) := by
            rcases HT2.out with h | h
            · subst h; simp at hlt
            · exact h
          have d0 := (BR.cell (p := ⟨g, o + j * 2, none⟩) (World.block_lt_of_cell? _ _ (hcs j hlt).1)).trans (hcs j hlt).1
          have d1 := (BR.cell (p := ⟨g, o + j * 2 + 1, none⟩) (World.block_lt_of_cell? _ _ (hcs j hlt).2)).trans (hcs j hlt).2
          have hz60 := HZ2.out _ (List.getElem_mem hlt)
          have HS := hide (flat_take encP xp hlt)
          clear hcs HT2 HZ2 HP2
          generalize xp[j] = XX at *
          obtain ⟨X1, X2⟩ := XX
          simp only at d0 d1 hz60
          obtain ⟨z1, z2⟩ := hz60
          have HO1 : Hid (∀ W, Calls Try.prog 32 #[.int .i64 X1.size] W fun e w' => e = .returned (.string ⟨#[UInt8.ofNat X1.size]⟩) ∧ Below W.heap.size W w') := fun W => by
            have hh := refOneB_any X1.size W (by omega) (by omega)
            rw [Int.toNat_natCast] at hh
            exact hh
          have HO2 : Hid (∀ W, Calls Try.prog 32 #[.int .i64 X2.size] W fun e w' => e = .returned (.string ⟨#[UInt8.ofNat X2.size]⟩) ∧ Below W.heap.size W w') := fun W => by
            have hh := refOneB_any X2.size W (by omega) (by omega)
            rw [Int.toNat_natCast] at hh
            exact hh
          obtain ⟨x0, x1, x2, x3, x4, xlt⟩ := XR.out
          have HSS : Hid (∀ W, Below wr.heap.size wr W → (fun w' => w'.cell? ⟨w.heap.size, 3, none⟩ = some (.slice (some ⟨g, o, none⟩) xp.length c2) ∧ w'.cell? ⟨g, o + j * 2, none⟩ = some (.string X1) ∧ w'.cell? ⟨g, o + j * 2 + 1, none⟩ = some (.string X2)) W) := fun W hW => ⟨(hW.cell (p := ⟨w.heap.size, 3, none⟩) xlt).trans x3, (hW.cell (p := ⟨g, o + j * 2, none⟩) (World.block_lt_of_cell? _ _ d0)).trans d0, (hW.cell (p := ⟨g, o + j * 2 + 1, none⟩) (World.block_lt_of_cell? _ _ d1)).trans d1⟩
          have C0 : Below wr.heap.size wr wr.drew := (Below.refl _ wr).drew
          have HBT : Hid ((A ++ (⟨#[UInt8.ofNat X1.size]⟩ ++ X1 ++ ⟨#[UInt8.ofNat X2.size]⟩ ++ X2)).data.toList = A.data.toList ++ encP (X1, X2)) := by
            rw [Hid, list_append, list_append, list_append, list_append]
            simp [encP, encT]
          go_wp2_with fail
          refine wp_region_held_drew (S := (fun w' => w'.cell? ⟨w.heap.size, 3, none⟩ = some (.slice (some ⟨g, o, none⟩) xp.length c2) ∧ w'.cell? ⟨g, o + j * 2, none⟩ = some (.string X1) ∧ w'.cell? ⟨g, o + j * 2 + 1, none⟩ = some (.string X2))) (by kernel_rfl) (HSS.out _ C0) (fun hHeld => ?_)
          refine wpAnyH_take (i := 0) (v := .string A) rfl (by kernel_rfl) (by kernel_rfl) (by kernel_rfl) (fun _ _ _ h => h) (Or.inl ⟨by kernel_rfl, by intro w hSw; (try dsimp only at hSw); go_simp⟩) (by assumption) ?_
          refine wpAnyH_take (i := 1) (v := .pointer (some ⟨w.heap.size, 3, none⟩)) rfl (by kernel_rfl) (by kernel_rfl) (by kernel_rfl) (fun _ _ _ h => h) (Or.inl ⟨by kernel_rfl, by intro w hSw; (try dsimp only at hSw); go_simp⟩) (by assumption) ?_
          refine wpAnyH_take (i := 2) (v := .slice (some ⟨g, o, none⟩) xp.length c2) rfl (by kernel_rfl) (by kernel_rfl) (by kernel_rfl) (fun _ _ _ h => h) (Or.inl ⟨by kernel_rfl, by intro w hSw; (try dsimp only at hSw); go_simp⟩) (by assumption) ?_
          refine wpAnyH_take (i := 3) (v := .int .i64 j) rfl (by kernel_rfl) (by kernel_rfl) (by kernel_rfl) (fun _ _ _ h => h) (Or.inl ⟨by kernel_rfl, by intro w hSw; (try dsimp only at hSw); go_simp⟩) (by assumption) ?_
          refine wpAnyH_take (i := 4) (v := .pointer (some ⟨g, o + j * 2, none⟩)) rfl (by kernel_rfl) (by kernel_rfl) (by kernel_rfl) (fun _ _ _ h => h) (Or.inl ⟨by kernel_rfl, by intro w hSw; (try dsimp only at hSw); go_simp⟩) (by assumption) ?_
          refine wpAnyH_take (i := 5) (v := .pointer (some ⟨g, o + j * 2, none⟩)) rfl (by kernel_rfl) (by kernel_rfl) (by kernel_rfl) (fun _ _ _ h => h) (Or.inl ⟨by kernel_rfl, by intro w hSw; (try dsimp only at hSw); go_simp⟩) (by assumption) ?_
          refine wpAnyH_take (i := 6) (v := .string X1) rfl (by kernel_rfl) (by kernel_rfl) (by kernel_rfl) (fun _ _ _ h => h) (Or.inl ⟨by kernel_rfl, by intro w hSw; (try dsimp only at hSw); go_simp⟩) (by assumption) ?_
          refine wpAnyH_take (i := 7) (v := .int .i64 X1.size) rfl (by kernel_rfl) (by kernel_rfl) (by kernel_rfl) (fun _ _ _ h => h) (Or.inl ⟨by kernel_rfl, by intro w hSw; (try dsimp only at hSw); go_simp⟩) (by assumption) ?_
          refine wpAnyH_take (i := 9) (v := .pointer (some ⟨w.heap.size, 3, none⟩)) rfl (by kernel_rfl) (by kernel_rfl) (by kernel_rfl) (fun _ _ _ h => h) (Or.inl ⟨by kernel_rfl, by intro w hSw; (try dsimp only at hSw); go_simp⟩) (by assumption) ?_
          refine wpAnyH_take (i := 10) (v := .slice (some ⟨g, o, none⟩) xp.length c2) rfl (by kernel_rfl) (by kernel_rfl) (by kernel_rfl) (fun _ _ _ h => h) (Or.inl ⟨by kernel_rfl, by intro w hSw; (try dsimp only at hSw); go_simp⟩) (by assumption) ?_
          refine wpAnyH_take (i := 11) (v := .int .i64 j) rfl (by kernel_rfl) (by kernel_rfl) (by kernel_rfl) (fun _ _ _ h => h) (Or.inl ⟨by kernel_rfl, by intro w hSw; (try dsimp only at hSw); go_simp⟩) (by assumption) ?_
          refine wpAnyH_take (i := 12) (v := .pointer (some ⟨g, o + j * 2, none⟩)) rfl (by kernel_rfl) (by kernel_rfl) (by kernel_rfl) (fun _ _ _ h => h) (Or.inl ⟨by kernel_rfl, by intro w hSw; (try dsimp only at hSw); go_simp⟩) (by assumption) ?_
          refine wpAnyH_take (i := 13) (v := .pointer (some ⟨g, o + j * 2, none⟩)) rfl (by kernel_rfl) (by kernel_rfl) (by kernel_rfl) (fun _ _ _ h => h) (Or.inl ⟨by kernel_rfl, by intro w hSw; (try dsimp only at hSw); go_simp⟩) (by assumption) ?_
          refine wpAnyH_take (i := 14) (v := .string X1) rfl (by kernel_rfl) (by kernel_rfl) (by kernel_rfl) (fun _ _ _ h => h) (Or.inl ⟨by kernel_rfl, by intro w hSw; (try dsimp only at hSw); go_simp⟩) (by assumption) ?_
          refine wpAnyH_take (i := 16) (v := .pointer (some ⟨w.heap.size, 3, none⟩)) rfl (by kernel_rfl) (by kernel_rfl) (by kernel_rfl) (fun _ _ _ h => h) (Or.inl ⟨by kernel_rfl, by intro w hSw; (try dsimp only at hSw); go_simp⟩) (by assumption) ?_
          refine wpAnyH_take (i := 17) (v := .slice (some ⟨g, o, none⟩) xp.length c2) rfl (by kernel_rfl) (by kernel_rfl) (by kernel_rfl) (fun _ _ _ h => h) (Or.inl ⟨by kernel_rfl, by intro w hSw; (try dsimp only at hSw); go_simp⟩) (by assumption) ?_
          refine wpAnyH_take (i := 18) (v := .int .i64 j) rfl (by kernel_rfl) (by kernel_rfl) (by kernel_rfl) (fun _ _ _ h => h) (Or.inl ⟨by kernel_rfl, by intro w hSw; (try dsimp only at hSw); go_simp⟩) (by assumption) ?_
          refine wpAnyH_take (i := 19) (v := .pointer (some ⟨g, o + j * 2, none⟩)) rfl (by kernel_rfl) (by kernel_rfl) (by kernel_rfl) (fun _ _ _ h => h) (Or.inl ⟨by kernel_rfl, by intro w hSw; (try dsimp only at hSw); go_simp⟩) (by assumption) ?_
          refine wpAnyH_take (i := 20) (v := .pointer (some ⟨g, o + j * 2 + 1, none⟩)) rfl (by kernel_rfl) (by kernel_rfl) (by kernel_rfl) (fun _ _ _ h => h) (Or.inl ⟨by kernel_rfl, by intro w hSw; (try dsimp only at hSw); go_simp⟩) (by assumption) ?_
          refine wpAnyH_take (i := 21) (v := .string X2) rfl (by kernel_rfl) (by kernel_rfl) (by kernel_rfl) (fun _ _ _ h => h) (Or.inl ⟨by kernel_rfl, by intro w hSw; (try dsimp only at hSw); go_simp⟩) (by assumption) ?_
          refine wpAnyH_take (i := 22) (v := .int .i64 X2.size) rfl (by kernel_rfl) (by kernel_rfl) (by kernel_rfl) (fun _ _ _ h => h) (Or.inl ⟨by kernel_rfl, by intro w hSw; (try dsimp only at hSw); go_simp⟩) (by assumption) ?_
          refine wpAnyH_take (i := 25) (v := .pointer (some ⟨w.heap.size, 3, none⟩)) rfl (by kernel_rfl) (by kernel_rfl) (by kernel_rfl) (fun _ _ _ h => h) (Or.inl ⟨by kernel_rfl, by intro w hSw; (try dsimp only at hSw); go_simp⟩) (by assumption) ?_
          refine wpAnyH_take (i := 26) (v := .slice (some ⟨g, o, none⟩) xp.length c2) rfl (by kernel_rfl) (by kernel_rfl) (by kernel_rfl) (fun _ _ _ h => h) (Or.inl ⟨by kernel_rfl, by intro w hSw; (try dsimp only at hSw); go_simp⟩) (by assumption) ?_
          refine wpAnyH_take (i := 27) (v := .int .i64 j) rfl (by kernel_rfl) (by kernel_rfl) (by kernel_rfl) (fun _ _ _ h => h) (Or.inl ⟨by kernel_rfl, by intro w hSw; (try dsimp only at hSw); go_simp⟩) (by assumption) ?_
          refine wpAnyH_take (i := 28) (v := .pointer (some ⟨g, o + j * 2, none⟩)) rfl (by kernel_rfl) (by kernel_rfl) (by kernel_rfl) (fun _ _ _ h => h) (Or.inl ⟨by kernel_rfl, by intro w hSw; (try dsimp only at hSw); go_simp⟩) (by assumption) ?_
          refine wpAnyH_take (i := 29) (v := .pointer (some ⟨g, o + j * 2 + 1, none⟩)) rfl (by kernel_rfl) (by kernel_rfl) (by kernel_rfl) (fun _ _ _ h => h) (Or.inl ⟨by kernel_rfl, by intro w hSw; (try dsimp only at hSw); go_simp⟩) (by assumption) ?_
          refine wpAnyH_take (i := 30) (v := .string X2) rfl (by kernel_rfl) (by kernel_rfl) (by kernel_rfl) (fun _ _ _ h => h) (Or.inl ⟨by kernel_rfl, by intro w hSw; (try dsimp only at hSw); go_simp⟩) (by assumption) ?_
          refine wpAnyH_ready (rs := [8]) (by kernel_rfl) (by simp) ?_
          refine AllReadyH.cons rfl (fun K hK => ?_) AllReadyH.nil
          go_simp
          refine (HO1.out _).mono ?_
          rintro e w4 ⟨rfl, hbw4⟩
          have Cw4 : Below wr.heap.size wr w4 := C0.trans (hbw4.mono C0.size)
          refine hK.out _ _ (HSS.out _ Cw4) (fun hHeld => ?_)
          clear hK K hHeld
          have hHeld := HSS.out _ Cw4
          refine wpAnyH_take (i := 15) (v := .string (⟨#[UInt8.ofNat X1.size]⟩ ++ X1)) rfl (by kernel_rfl) (by kernel_rfl) (by kernel_rfl) (fun _ _ _ h => h) (Or.inl ⟨by kernel_rfl, by intro w hSw; (try dsimp only at hSw); go_simp; omega⟩) (by assumption) ?_
          refine wpAnyH_ready (rs := [23]) (by kernel_rfl) (by simp) ?_
          refine AllReadyH.cons rfl (fun K hK => ?_) AllReadyH.nil
          go_simp
          refine (HO2.out _).mono ?_
          rintro e w5 ⟨rfl, hbw5⟩
          have Cw5 : Below wr.heap.size wr w5 := Cw4.trans (hbw5.mono Cw4.size)
          refine hK.out _ _ (HSS.out _ Cw5) (fun hHeld => ?_)
          clear hK K hHeld
          have hHeld := HSS.out _ Cw5
          refine wpAnyH_take (i := 24) (v := .string (⟨#[UInt8.ofNat X1.size]⟩ ++ X1 ++ ⟨#[UInt8.ofNat X2.size]⟩)) rfl (by kernel_rfl) (by kernel_rfl) (by kernel_rfl) (fun _ _ _ h => h) (Or.inl ⟨by kernel_rfl, by intro w hSw; (try dsimp only at hSw); go_simp; omega⟩) (by assumption) ?_
          refine wpAnyH_take (i := 31) (v := .string (⟨#[UInt8.ofNat X1.size]⟩ ++ X1 ++ ⟨#[UInt8.ofNat X2.size]⟩ ++ X2)) rfl (by kernel_rfl) (by kernel_rfl) (by kernel_rfl) (fun _ _ _ h => h) (Or.inl ⟨by kernel_rfl, by intro w hSw; (try dsimp only at hSw); go_simp; omega⟩) (by assumption) ?_
          refine wpAnyH_take (i := 32) (v := .string (A ++ (⟨#[UInt8.ofNat X1.size]⟩ ++ X1 ++ ⟨#[UInt8.ofNat X2.size]⟩ ++ X2))) rfl (by kernel_rfl) (by kernel_rfl) (by kernel_rfl) (fun _ _ _ h => h) (Or.inl ⟨by kernel_rfl, by intro w hSw; (try dsimp only at hSw); go_simp; omega⟩) (by assumption) ?_
          refine wpAnyH_take (i := 33) (v := .string (A ++ (⟨#[UInt8.ofNat X1.size]⟩ ++ X1 ++ ⟨#[UInt8.ofNat X2.size]⟩ ++ X2))) rfl (by kernel_rfl) (by kernel_rfl) (by kernel_rfl) (fun _ _ _ h => h) (Or.inl ⟨by kernel_rfl, by intro w hSw; (try dsimp only at hSw); go_simp⟩) (by assumption) ?_
          refine wpAnyH_done (by kernel_rfl) ?_ _
          generalize A ++ (⟨#[UInt8.ofNat X1.size]⟩ ++ X1 ++ ⟨#[UInt8.ofNat X2.size]⟩ ++ X2) = BB at *
          clear x0 x1 x2 x3 x4 xlt hHeld HSS d0 d1
          go_wp2_with fail
          go_roundw
          case rel => exact ⟨j + 1, BB, by omega, by go_num, rfl, by rw [Hid, HBT.out, HAj.out, HS.out, List.append_assoc], hbr.trans (Cw5.mono hbr.size)⟩
          case measure => simp [intOf]; omega
        · have hge : ¬ ((j : Nat) : Int) < ((xp.length : Nat) : Int) := by omega
          obtain rfl : j = xp.length := by omega
          rw [List.take_length] at HAj
          obtain ⟨x0, x1, x2, x3, x4, xlt⟩ := XR.out
          go_wp2_with fail
          clear x0 x1 x2 x3 x4 xlt XR HT2 BR
          go_loopw [3, 6] (fun v i wr => ∃ (j : Nat) (A : ByteArray), j ≤ xs.length ∧ i = .int .i64 j ∧ v = .string A ∧ Hid (A.data.toList = (([UInt8.ofNat k.toNat, UInt8.ofNat (xl.length + xp.length + xs.length)] ++ (xl.map encT).flatten) ++ (xp.map encP).flatten) ++ ((xs.take j).map encS).flatten) ∧ Below w2.heap.size w2 wr) (fun _ i _ => xs.length - (intOf i).toNat)
          case atStart => exact ⟨0, A, by omega, rfl, rfl, by rw [Hid, HAj.out]; simp, hbr⟩
          case round =>
            clear HAj hbr hj hlt hge hAz
            obtain ⟨j, A, hj, rfl, rfl, HAj, hbr⟩ := hrel
            have XR := hide (X2'.out.below hbr)
            have BR : Below w.heap.size w wr := B2.trans (hbr.mono B2.size)
            have hAz : A.size ≤ 20000 := by
              rw [← size_list, HAj.out, List.length_append]
              have h1 := flat_len encS 200 (xs.take j) (fun a ha => HP3.out a (List.mem_of_mem_take ha))
              rw [List.length_take] at h1
              have h2 : min j xs.length ≤ 24 := by omega
              simp only [List.length_append, List.length_cons, List.length_nil]
              omega
            by_cases hlt : j < xs.length
            · have hlt' : ((j : Nat) : Int) < ((xs.length : Nat) : Int) := by omega
              obtain ⟨g, o, rfl, hcs⟩ : ∃ g o, a3 = some ⟨g, o, none⟩ ∧ ∀ i (h : i < xs.length), w.cell? ⟨g, o + i * 2, none⟩ = some (.int .i64 xs[i].1) ∧ w.cell? ⟨g, o + i * 2 + 1, none⟩ = some (.string xs[i].2) := by
                rcases HT3.out with h | h
                · subst h; simp at hlt
                · exact h
              have d0 := (BR.cell (p := ⟨g, o + j * 2, none⟩) (World.block_lt_of_cell? _ _ (hcs j hlt).1)).trans (hcs j hlt).1
              have d1 := (BR.cell (p := ⟨g, o + j * 2 + 1, none⟩) (World.block_lt_of_cell? _ _ (hcs j hlt).2)).trans (hcs j hlt).2
              have hz60 := HZ3.out _ (List.getElem_mem hlt)
              have HS := hide (flat_take encS xs hlt)
              clear hcs HT3 HZ3 HP3
              generalize xs[j] = XX at *
              obtain ⟨n, X2⟩ := XX
              simp only at d0 d1 hz60
              obtain ⟨z2, n1, n2⟩ := hz60
              obtain ⟨x0, x1, x2, x3, x4, xlt⟩ := XR.out
              go_wp2_with fail
              have HBT : Hid ((A ++ (⟨#[UInt8.ofNat ((n + 999999999).toNat / 16777216)]⟩ ++ ⟨#[UInt8.ofNat ((n + 999999999).toNat / 65536)]⟩ ++ ⟨#[UInt8.ofNat ((n + 999999999).toNat / 256)]⟩ ++ ⟨#[UInt8.ofNat (n + 999999999).toNat]⟩ ++ ⟨#[UInt8.ofNat X2.size]⟩ ++ X2)).data.toList = A.data.toList ++ encS (n, X2)) := by
                rw [Hid, list_append, list_append, list_append, list_append, list_append, list_append]
                simp [encS, encT, num4]
              have m1 : 0 ≤ n + 999999999 := by omega
              have m2 : n + 999999999 ≤ 1999999998 := by omega
              have HSS : Hid (∀ W, Below wr.heap.size wr W → (fun w' => w'.cell? ⟨w.heap.size, 4, none⟩ = some (.slice (some ⟨g, o, none⟩) xs.length c3) ∧ w'.cell? ⟨g, o + j * 2 + 1, none⟩ = some (.string X2)) W) := fun W hW => ⟨(hW.cell (p := ⟨w.heap.size, 4, none⟩) xlt).trans x4, (hW.cell (p := ⟨g, o + j * 2 + 1, none⟩) (World.block_lt_of_cell? _ _ d1)).trans d1⟩
              have C0 : Below wr.heap.size wr wr.drew := (Below.refl _ wr).drew
              clear d0 x0 x1 x2 x3
              generalize n + 999999999 = m at *
              have QA : Hid (∀ W, Calls Try.prog 32 #[.int .i64 (m / 16777216)] W fun e w' => e = .returned (.string ⟨#[UInt8.ofNat (m.toNat / 16777216)]⟩) ∧ Below W.heap.size W w') := fun W => by
                have hh := refOneB_any (m / 16777216) W (by omega) (by omega)
                rw [show UInt8.ofNat (m / 16777216).toNat = UInt8.ofNat (m.toNat / 16777216) from u8_eq (by omega)] at hh
                exact hh
              have QB : Hid (∀ W, Calls Try.prog 32 #[.int .i64 (m / 65536 % 256)] W fun e w' => e = .returned (.string ⟨#[UInt8.ofNat (m.toNat / 65536)]⟩) ∧ Below W.heap.size W w') := fun W => by
                have hh := refOneB_any (m / 65536 % 256) W (by omega) (by omega)
                rw [show UInt8.ofNat (m / 65536 % 256).toNat = UInt8.ofNat (m.toNat / 65536) from u8_eq (by omega)] at hh
                exact hh
              have QC : Hid (∀ W, Calls Try.prog 32 #[.int .i64 (m / 256 % 256)] W fun e w' => e = .returned (.string ⟨#[UInt8.ofNat (m.toNat / 256)]⟩) ∧ Below W.heap.size W w') := fun W => by
                have hh := refOneB_any (m / 256 % 256) W (by omega) (by omega)
                rw [show UInt8.ofNat (m / 256 % 256).toNat = UInt8.ofNat (m.toNat / 256) from u8_eq (by omega)] at hh
                exact hh
              have QD : Hid (∀ W, Calls Try.prog 32 #[.int .i64 (m % 256)] W fun e w' => e = .returned (.string ⟨#[UInt8.ofNat m.toNat]⟩) ∧ Below W.heap.size W w') := fun W => by
                have hh := refOneB_any (m % 256) W (by omega) (by omega)
                rw [show UInt8.ofNat (m % 256).toNat = UInt8.ofNat (m.toNat) from u8_eq (by omega)] at hh
                exact hh
              have HO2 : Hid (∀ W, Calls Try.prog 32 #[.int .i64 X2.size] W fun e w' => e = .returned (.string ⟨#[UInt8.ofNat X2.size]⟩) ∧ Below W.heap.size W w') := fun W => by
                have hh := refOneB_any X2.size W (by omega) (by omega)
                rw [Int.toNat_natCast] at hh
                exact hh
              refine wp_region_held_drew (S := (fun w' => w'.cell? ⟨w.heap.size, 4, none⟩ = some (.slice (some ⟨g, o, none⟩) xs.length c3) ∧ w'.cell? ⟨g, o + j * 2 + 1, none⟩ = some (.string X2))) (by kernel_rfl) (HSS.out _ C0) (fun hHeld => ?_)
              refine wpAnyH_take (i := 0) (v := .string A) rfl (by kernel_rfl) (by kernel_rfl) (by kernel_rfl) (fun _ _ _ h => h) (Or.inl ⟨by kernel_rfl, by intro w hSw; (try dsimp only at hSw); go_simp⟩) (by assumption) ?_
              refine wpAnyH_take (i := 1) (v := .int .i64 m) rfl (by kernel_rfl) (by kernel_rfl) (by kernel_rfl) (fun _ _ _ h => h) (Or.inl ⟨by kernel_rfl, by intro w hSw; (try dsimp only at hSw); go_simp⟩) (by assumption) ?_
              refine wpAnyH_take (i := 2) (v := .int .i64 (m / 16777216)) rfl (by kernel_rfl) (by kernel_rfl) (by kernel_rfl) (fun _ _ _ h => h) (Or.inl ⟨by kernel_rfl, by intro w hSw; (try dsimp only at hSw); go_simp; rw [Int.tdiv_eq_ediv_of_nonneg (by omega)]; rw [IntKind.wrap_i64]; omega⟩) (by assumption) ?_
              refine wpAnyH_take (i := 4) (v := .int .i64 m) rfl (by kernel_rfl) (by kernel_rfl) (by kernel_rfl) (fun _ _ _ h => h) (Or.inl ⟨by kernel_rfl, by intro w hSw; (try dsimp only at hSw); go_simp⟩) (by assumption) ?_
              refine wpAnyH_take (i := 5) (v := .int .i64 (m / 65536)) rfl (by kernel_rfl) (by kernel_rfl) (by kernel_rfl) (fun _ _ _ h => h) (Or.inl ⟨by kernel_rfl, by intro w hSw; (try dsimp only at hSw); go_simp; rw [Int.tdiv_eq_ediv_of_nonneg (by omega)]; rw [IntKind.wrap_i64]; omega⟩) (by assumption) ?_
              refine wpAnyH_take (i := 6) (v := .int .i64 (m / 65536 % 256)) rfl (by kernel_rfl) (by kernel_rfl) (by kernel_rfl) (fun _ _ _ h => h) (Or.inl ⟨by kernel_rfl, by intro w hSw; (try dsimp only at hSw); go_simp; rw [Int.tmod_eq_emod_of_nonneg (by omega)]⟩) (by assumption) ?_
              refine wpAnyH_take (i := 9) (v := .int .i64 m) rfl (by kernel_rfl) (by kernel_rfl) (by kernel_rfl) (fun _ _ _ h => h) (Or.inl ⟨by kernel_rfl, by intro w hSw; (try dsimp only at hSw); go_simp⟩) (by assumption) ?_
              refine wpAnyH_take (i := 10) (v := .int .i64 (m / 256)) rfl (by kernel_rfl) (by kernel_rfl) (by kernel_rfl) (fun _ _ _ h => h) (Or.inl ⟨by kernel_rfl, by intro w hSw; (try dsimp only at hSw); go_simp; rw [Int.tdiv_eq_ediv_of_nonneg (by omega)]; rw [IntKind.wrap_i64]; omega⟩) (by assumption) ?_
              refine wpAnyH_take (i := 11) (v := .int .i64 (m / 256 % 256)) rfl (by kernel_rfl) (by kernel_rfl) (by kernel_rfl) (fun _ _ _ h => h) (Or.inl ⟨by kernel_rfl, by intro w hSw; (try dsimp only at hSw); go_simp; rw [Int.tmod_eq_emod_of_nonneg (by omega)]⟩) (by assumption) ?_
              refine wpAnyH_take (i := 14) (v := .int .i64 m) rfl (by kernel_rfl) (by kernel_rfl) (by kernel_rfl) (fun _ _ _ h => h) (Or.inl ⟨by kernel_rfl, by intro w hSw; (try dsimp only at hSw); go_simp⟩) (by assumption) ?_
              refine wpAnyH_take (i := 15) (v := .int .i64 (m % 256)) rfl (by kernel_rfl) (by kernel_rfl) (by kernel_rfl) (fun _ _ _ h => h) (Or.inl ⟨by kernel_rfl, by intro w hSw; (try dsimp only at hSw); go_simp; rw [Int.tmod_eq_emod_of_nonneg (by omega)]⟩) (by assumption) ?_
              refine wpAnyH_take (i := 18) (v := .pointer (some ⟨w.heap.size, 4, none⟩)) rfl (by kernel_rfl) (by kernel_rfl) (by kernel_rfl) (fun _ _ _ h => h) (Or.inl ⟨by kernel_rfl, by intro w hSw; (try dsimp only at hSw); go_simp⟩) (by assumption) ?_
              refine wpAnyH_take (i := 19) (v := .slice (some ⟨g, o, none⟩) xs.length c3) rfl (by kernel_rfl) (by kernel_rfl) (by kernel_rfl) (fun _ _ _ h => h) (Or.inl ⟨by kernel_rfl, by intro w hSw; (try dsimp only at hSw); go_simp⟩) (by assumption) ?_
              refine wpAnyH_take (i := 20) (v := .int .i64 j) rfl (by kernel_rfl) (by kernel_rfl) (by kernel_rfl) (fun _ _ _ h => h) (Or.inl ⟨by kernel_rfl, by intro w hSw; (try dsimp only at hSw); go_simp⟩) (by assumption) ?_
              refine wpAnyH_take (i := 21) (v := .pointer (some ⟨g, o + j * 2, none⟩)) rfl (by kernel_rfl) (by kernel_rfl) (by kernel_rfl) (fun _ _ _ h => h) (Or.inl ⟨by kernel_rfl, by intro w hSw; (try dsimp only at hSw); go_simp⟩) (by assumption) ?_
              refine wpAnyH_take (i := 22) (v := .pointer (some ⟨g, o + j * 2 + 1, none⟩)) rfl (by kernel_rfl) (by kernel_rfl) (by kernel_rfl) (fun _ _ _ h => h) (Or.inl ⟨by kernel_rfl, by intro w hSw; (try dsimp only at hSw); go_simp⟩) (by assumption) ?_
              refine wpAnyH_take (i := 23) (v := .string X2) rfl (by kernel_rfl) (by kernel_rfl) (by kernel_rfl) (fun _ _ _ h => h) (Or.inl ⟨by kernel_rfl, by intro w hSw; (try dsimp only at hSw); go_simp⟩) (by assumption) ?_
              refine wpAnyH_take (i := 24) (v := .int .i64 X2.size) rfl (by kernel_rfl) (by kernel_rfl) (by kernel_rfl) (fun _ _ _ h => h) (Or.inl ⟨by kernel_rfl, by intro w hSw; (try dsimp only at hSw); go_simp⟩) (by assumption) ?_
              refine wpAnyH_take (i := 27) (v := .pointer (some ⟨w.heap.size, 4, none⟩)) rfl (by kernel_rfl) (by kernel_rfl) (by kernel_rfl) (fun _ _ _ h => h) (Or.inl ⟨by kernel_rfl, by intro w hSw; (try dsimp only at hSw); go_simp⟩) (by assumption) ?_
              refine wpAnyH_take (i := 28) (v := .slice (some ⟨g, o, none⟩) xs.length c3) rfl (by kernel_rfl) (by kernel_rfl) (by kernel_rfl) (fun _ _ _ h => h) (Or.inl ⟨by kernel_rfl, by intro w hSw; (try dsimp only at hSw); go_simp⟩) (by assumption) ?_
              refine wpAnyH_take (i := 29) (v := .int .i64 j) rfl (by kernel_rfl) (by kernel_rfl) (by kernel_rfl) (fun _ _ _ h => h) (Or.inl ⟨by kernel_rfl, by intro w hSw; (try dsimp only at hSw); go_simp⟩) (by assumption) ?_
              refine wpAnyH_take (i := 30) (v := .pointer (some ⟨g, o + j * 2, none⟩)) rfl (by kernel_rfl) (by kernel_rfl) (by kernel_rfl) (fun _ _ _ h => h) (Or.inl ⟨by kernel_rfl, by intro w hSw; (try dsimp only at hSw); go_simp⟩) (by assumption) ?_
              refine wpAnyH_take (i := 31) (v := .pointer (some ⟨g, o + j * 2 + 1, none⟩)) rfl (by kernel_rfl) (by kernel_rfl) (by kernel_rfl) (fun _ _ _ h => h) (Or.inl ⟨by kernel_rfl, by intro w hSw; (try dsimp only at hSw); go_simp⟩) (by assumption) ?_
              refine wpAnyH_take (i := 32) (v := .string X2) rfl (by kernel_rfl) (by kernel_rfl) (by kernel_rfl) (fun _ _ _ h => h) (Or.inl ⟨by kernel_rfl, by intro w hSw; (try dsimp only at hSw); go_simp⟩) (by assumption) ?_
              refine wpAnyH_ready (rs := [3]) (by kernel_rfl) (by simp) ?_
              refine AllReadyH.cons rfl (fun K hK => ?_) AllReadyH.nil
              go_simp
              refine (QA.out _).mono ?_
              rintro e w4 ⟨rfl, hbw4⟩
              have Cw4 : Below wr.heap.size wr w4 := C0.trans (hbw4.mono C0.size)
              refine hK.out _ _ (HSS.out _ Cw4) (fun hHeld => ?_)
              clear hK K hHeld
              have hHeld := HSS.out _ Cw4
              refine wpAnyH_ready (rs := [7]) (by kernel_rfl) (by simp) ?_
              refine AllReadyH.cons rfl (fun K hK => ?_) AllReadyH.nil
              go_simp
              refine (QB.out _).mono ?_
              rintro e w5 ⟨rfl, hbw5⟩
              have Cw5 : Below wr.heap.size wr w5 := Cw4.trans (hbw5.mono Cw4.size)
              refine hK.out _ _ (HSS.out _ Cw5) (fun hHeld => ?_)
              clear hK K hHeld
              have hHeld := HSS.out _ Cw5
              refine wpAnyH_take (i := 8) (v := .string (⟨#[UInt8.ofNat (m.toNat / 16777216)]⟩ ++ ⟨#[UInt8.ofNat (m.toNat / 65536)]⟩)) rfl (by kernel_rfl) (by kernel_rfl) (by kernel_rfl) (fun _ _ _ h => h) (Or.inl ⟨by kernel_rfl, by intro w hSw; (try dsimp only at hSw); go_simp; (try omega)⟩) (by assumption) ?_
              refine wpAnyH_ready (rs := [12]) (by kernel_rfl) (by simp) ?_
              refine AllReadyH.cons rfl (fun K hK => ?_) AllReadyH.nil
              go_simp
              refine (QC.out _).mono ?_
              rintro e w6 ⟨rfl, hbw6⟩
              have Cw6 : Below wr.heap.size wr w6 := Cw5.trans (hbw6.mono Cw5.size)
              refine hK.out _ _ (HSS.out _ Cw6) (fun hHeld => ?_)
              clear hK K hHeld
              have hHeld := HSS.out _ Cw6
              refine wpAnyH_take (i := 13) (v := .string (⟨#[UInt8.ofNat (m.toNat / 16777216)]⟩ ++ ⟨#[UInt8.ofNat (m.toNat / 65536)]⟩ ++ ⟨#[UInt8.ofNat (m.toNat / 256)]⟩)) rfl (by kernel_rfl) (by kernel_rfl) (by kernel_rfl) (fun _ _ _ h => h) (Or.inl ⟨by kernel_rfl, by intro w hSw; (try dsimp only at hSw); go_simp; (try omega)⟩) (by assumption) ?_
              refine wpAnyH_ready (rs := [16]) (by kernel_rfl) (by simp) ?_
              refine AllReadyH.cons rfl (fun K hK => ?_) AllReadyH.nil
              go_simp
              refine (QD.out _).mono ?_
              rintro e w7 ⟨rfl, hbw7⟩
              have Cw7 : Below wr.heap.size wr w7 := Cw6.trans (hbw7.mono Cw6.size)
              refine hK.out _ _ (HSS.out _ Cw7) (fun hHeld => ?_)
              clear hK K hHeld
              have hHeld := HSS.out _ Cw7
              refine wpAnyH_take (i := 17) (v := .string (⟨#[UInt8.ofNat (m.toNat / 16777216)]⟩ ++ ⟨#[UInt8.ofNat (m.toNat / 65536)]⟩ ++ ⟨#[UInt8.ofNat (m.toNat / 256)]⟩ ++ ⟨#[UInt8.ofNat m.toNat]⟩)) rfl (by kernel_rfl) (by kernel_rfl) (by kernel_rfl) (fun _ _ _ h => h) (Or.inl ⟨by kernel_rfl, by intro w hSw; (try dsimp only at hSw); go_simp; (try omega)⟩) (by assumption) ?_
              refine wpAnyH_ready (rs := [25]) (by kernel_rfl) (by simp) ?_
              refine AllReadyH.cons rfl (fun K hK => ?_) AllReadyH.nil
              go_simp
              refine (HO2.out _).mono ?_
              rintro e w8 ⟨rfl, hbw8⟩
              have Cw8 : Below wr.heap.size wr w8 := Cw7.trans (hbw8.mono Cw7.size)
              refine hK.out _ _ (HSS.out _ Cw8) (fun hHeld => ?_)
              clear hK K hHeld
              have hHeld := HSS.out _ Cw8
              refine wpAnyH_take (i := 26) (v := .string (⟨#[UInt8.ofNat (m.toNat / 16777216)]⟩ ++ ⟨#[UInt8.ofNat (m.toNat / 65536)]⟩ ++ ⟨#[UInt8.ofNat (m.toNat / 256)]⟩ ++ ⟨#[UInt8.ofNat m.toNat]⟩ ++ ⟨#[UInt8.ofNat X2.size]⟩)) rfl (by kernel_rfl) (by kernel_rfl) (by kernel_rfl) (fun _ _ _ h => h) (Or.inl ⟨by kernel_rfl, by intro w hSw; (try dsimp only at hSw); go_simp; (try omega)⟩) (by assumption) ?_
              refine wpAnyH_take (i := 33) (v := .string (⟨#[UInt8.ofNat (m.toNat / 16777216)]⟩ ++ ⟨#[UInt8.ofNat (m.toNat / 65536)]⟩ ++ ⟨#[UInt8.ofNat (m.toNat / 256)]⟩ ++ ⟨#[UInt8.ofNat m.toNat]⟩ ++ ⟨#[UInt8.ofNat X2.size]⟩ ++ X2)) rfl (by kernel_rfl) (by kernel_rfl) (by kernel_rfl) (fun _ _ _ h => h) (Or.inl ⟨by kernel_rfl, by intro w hSw; (try dsimp only at hSw); go_simp; (try omega)⟩) (by assumption) ?_
              refine wpAnyH_take (i := 34) (v := .string (A ++ (⟨#[UInt8.ofNat (m.toNat / 16777216)]⟩ ++ ⟨#[UInt8.ofNat (m.toNat / 65536)]⟩ ++ ⟨#[UInt8.ofNat (m.toNat / 256)]⟩ ++ ⟨#[UInt8.ofNat m.toNat]⟩ ++ ⟨#[UInt8.ofNat X2.size]⟩ ++ X2))) rfl (by kernel_rfl) (by kernel_rfl) (by kernel_rfl) (fun _ _ _ h => h) (Or.inl ⟨by kernel_rfl, by intro w hSw; (try dsimp only at hSw); go_simp; (try omega)⟩) (by assumption) ?_
              refine wpAnyH_take (i := 35) (v := .string (A ++ (⟨#[UInt8.ofNat (m.toNat / 16777216)]⟩ ++ ⟨#[UInt8.ofNat (m.toNat / 65536)]⟩ ++ ⟨#[UInt8.ofNat (m.toNat / 256)]⟩ ++ ⟨#[UInt8.ofNat m.toNat]⟩ ++ ⟨#[UInt8.ofNat X2.size]⟩ ++ X2))) rfl (by kernel_rfl) (by kernel_rfl) (by kernel_rfl) (fun _ _ _ h => h) (Or.inl ⟨by kernel_rfl, by intro w hSw; (try dsimp only at hSw); go_simp⟩) (by assumption) ?_
              refine wpAnyH_done (by kernel_rfl) ?_ _
              generalize A ++ (⟨#[UInt8.ofNat (m.toNat / 16777216)]⟩ ++ ⟨#[UInt8.ofNat (m.toNat / 65536)]⟩ ++ ⟨#[UInt8.ofNat (m.toNat / 256)]⟩ ++ ⟨#[UInt8.ofNat m.toNat]⟩ ++ ⟨#[UInt8.ofNat X2.size]⟩ ++ X2) = BB at *
              clear x4 xlt hHeld HSS d1
              go_wp2_with fail
              go_roundw
              case rel => exact ⟨j + 1, BB, by omega, by go_num, rfl, by rw [Hid, HBT.out, HAj.out, HS.out, List.append_assoc], hbr.trans (Cw8.mono hbr.size)⟩
              case measure => simp [intOf]; omega
            · have hge : ¬ ((j : Nat) : Int) < ((xs.length : Nat) : Int) := by omega
              obtain rfl : j = xs.length := by omega
              rw [List.take_length] at HAj
              obtain ⟨x0, x1, x2, x3, x4, xlt⟩ := XR.out
              go_wp2_with fail
              go_ret
              refine ⟨?_, BR⟩
              refine congrArg (fun s => Ending.returned (Value.string s)) (?_ : A = _)
              rw [← bytes_of A, HAj.out]
              first
                | rfl
                | simp
end Go.Proofs.Ytolpmaapdkhigab
