/- WALKS of Encode, whatever is right. -/
import Derived.Test.YtolpmaapdkhigaaDoorBack2
import Derived.Handy
namespace Go.Proofs.YtolpmaapdkhigaaDoor
open Go.RowKit

theorem itoaOk_env {w0 : World} (he : Env w0) (n : Int) (h0 : -999999999 ≤ n) (h1 : n ≤ 999999999) : ItoaOk w0.heap.size w0 n :=
  fun w1 hb => itoa_any n w1 (by omega) (by omega) (he.below hb)
theorem fits_env {w0 : World} (he : Env w0) {r : Rep} (h : pCheck1 r.k r.t r.n r.len = 0) : r.fits w0.heap.size w0 := by
  obtain ⟨h1, h5, _, ht, hn, g1, g2, g3, g4⟩ := check1_parts h
  have hsz : r.t.size ≤ 60 := by
    by_cases k1 : r.k = 1
    · have := (g1 k1).1; omega
    · by_cases k4 : r.k = 4
      · exact g4 k4
      · have : r.t.data.toList = [] := by rcases ht with h | h | h; omega; omega; exact h
        rw [← size_list, this]
        simp
  refine ⟨fun hk => ?_, fun hk => ?_, hsz⟩
  · have hb : -999999999 ≤ r.n ∧ r.n ≤ 999999999 := by
      rcases hk with hk | hk
      · have := g2 hk; omega
      · exact g3 hk
    exact ⟨itoaOk_env he _ hb.1 hb.2, itoa_len _ hb.1 hb.2⟩
  · exact ⟨itoaOk_env he _ (by omega) (by omega), itoa_len _ (by omega) (by omega)⟩

set_option maxRecDepth 100000 in
set_option maxHeartbeats 1000000 in
theorem encode_one (k : Int) (t : ByteArray) (n : Int) (a : Option Addr) (cap : Nat) (rs : List Rep) (w : World) (he : Env w) (hk6 : k ≠ 6) (ht : t.size ≤ maxLen) (hl : ListAt w a rs) (hc : pCheck k t n rs = 0) :
    Calls Tryd.prog 7 #[.agg #[.int .i64 k, .string t, .int .i64 n, .slice a rs.length cap]] w fun e w' => e = .returned (.tuple #[.string ⟨(pEnc1 k t.data.toList n).toArray⟩, .int .i64 0]) ∧ Below w.heap.size w w' := by
  have hl1 : ∀ o, ListAt (w.alloc o) a rs := fun o => by
    rcases hl with hl | ⟨b, off, ha, hr⟩
    · exact .inl hl
    · exact .inr ⟨b, off, ha, hr.kept (S := fun _ => False) ((Kept.refl _ w).alloc o) (fun e => e)⟩
  have HC : Hid (∀ o, Calls Tryd.prog 13 #[.agg #[.int .i64 k, .string t, .int .i64 n, .slice a rs.length cap]] (w.alloc o) fun e w' => e = .returned (.int .i64 0) ∧ Below (w.alloc o).heap.size (w.alloc o) w') := fun o => by
    have := check_any k t n a cap rs (w.alloc o) ht (hl1 o)
    rw [hc] at this
    exact this
  have h1 : pCheck1 k t n rs.length = 0 := by rw [pCheck, if_neg hk6] at hc; exact hc
  have HF := hide (fits_env (r := ⟨k, t, n, a, rs.length, cap⟩) he h1)
  have hk6b : (k == 6) = false := by rw [beq_eq_false_iff_ne]; exact hk6
  clear hl1 hl ht hc h1 hk6
  go_enter Tryd.func7, Tryd.ntmps7
  go_wp2_with (go_at_call 13; refine (HC.out _).mono ?_; rintro e w1 ⟨rfl, hb1⟩; obtain ⟨hc1, hf1⟩ := bcell hb1; have hz : w.heap.size < w1.heap.size := by have := hb1.size; simp at this; omega)
  have hb : Below w.heap.size w w1 := ((Below.refl _ w).alloc (Nat.le_refl _) _).trans (hb1.mono (by simp))
  have hcl0 : w1.cell? ⟨w.heap.size, 0, none⟩ = some (.int .i64 k) := by rw [hc1 _ _ (by simp)]; simp [go_sem]
  have hcl1 : w1.cell? ⟨w.heap.size, 1, none⟩ = some (.string t) := by rw [hc1 _ _ (by simp)]; simp [go_sem]
  have hcl2 : w1.cell? ⟨w.heap.size, 2, none⟩ = some (.int .i64 n) := by rw [hc1 _ _ (by simp)]; simp [go_sem]
  have hcl3 : w1.cell? ⟨w.heap.size, 3, none⟩ = some (.slice a rs.length cap) := by rw [hc1 _ _ (by simp)]; simp [go_sem]
  clear hc1 hf1 hb1 HC
  refine (encSingle_any w.heap.size w k t n a rs.length cap w1 hb (by omega) (by have := HF.out.2.2; simp only at this; omega) HF.out.1 HF.out.2.1).mono ?_
  rintro e w2 ⟨rfl, hb2⟩
  clear hcl0 hcl1 hcl2 hcl3
  go_wp2
  go_ret2
  exact ⟨rfl, hb.trans (hb2.mono (by omega))⟩

set_option maxRecDepth 100000 in
set_option maxHeartbeats 1000000 in
theorem encode_nil (t : ByteArray) (a : Option Addr) (cap : Nat) (w : World) (he : Env w) (ht : t.toList = []) :
    Calls Tryd.prog 7 #[.agg #[.int .i64 6, .string t, .int .i64 0, .slice a 0 cap]] w fun e w' => e = .returned (.tuple #[.string ⟨(pEncList []).toArray⟩, .int .i64 0]) ∧ Below w.heap.size w w' := by
  have HC : Hid (∀ o, Calls Tryd.prog 13 #[.agg #[.int .i64 6, .string t, .int .i64 0, .slice a 0 cap]] (w.alloc o) fun e w' => e = .returned (.int .i64 0) ∧ Below (w.alloc o).heap.size (w.alloc o) w') := fun o => checkNil_any a cap (w.alloc o) t ht
  have HI := hide (itoaOk_env he 0 (by omega) (by omega))
  have hI2 := itoa_len 0 (by omega) (by omega)
  go_enter Tryd.func7, Tryd.ntmps7
  go_wp2_with (go_at_call 13; refine (HC.out _).mono ?_; rintro e w1 ⟨rfl, hb1⟩; obtain ⟨hc1, hf1⟩ := bcell hb1; have hz : w.heap.size < w1.heap.size := by have := hb1.size; simp at this; omega)
  have hx1 : Below w.heap.size w (w1.alloc (.cells #[.pointer none, .slice none 0 0] 47)) :=
    ((((Below.refl _ w).alloc (Nat.le_refl _) _).trans (hb1.mono (by simp))).alloc (by omega) _)
  have hcl : w1.cell? ⟨w.heap.size, 3, none⟩ = some (.slice a 0 cap) := by
    rw [hc1 _ _ (by simp)]
    simp [go_sem]
  have hww1 : Below w.heap.size w w1 := ((Below.refl _ w).alloc (Nat.le_refl _) _).trans (hb1.mono (by simp))
  have HWW := hide hww1
  have HCL := hide hcl
  have hib : Lib.IsBuilder 47 5 w1.heap.size w1.heap.size [] (w1.alloc (.cells #[.pointer none, .slice none 0 0] 47)) :=
    .inl ⟨Nat.le_refl _, .slice none 0 0, heap_alloc_new w1 _, World.ownsRow_nil _ _ _ _, by simp [Value.ownBlock]⟩
  have HIB := hide hib
  clear hc1 hf1 hb1 hcl hww1 hib HC
  refine (HI.out _ hx1).mono ?_
  rintro e w2 ⟨rfl, hb2⟩
  have hib2 := isBuilder_kept HIB.out hb2
  have hz2 : w1.heap.size + 1 ≤ w2.heap.size := by have := hb2.size; simpa using this
  have h12 : Below w1.heap.size w1 w2 := ((Below.refl _ w1).alloc (Nat.le_refl _) _).trans (hb2.mono (by simp))
  have H12 := hide h12
  have HIB2 := hide hib2
  clear HIB HI hx1 hb2 h12 hib2
  go_wp2_with fail
  have hhead : (⟨#[42]⟩ ++ ⟨(Lib.itoa 0).toArray⟩ ++ ⟨#[13, 10]⟩ : ByteArray) = ⟨(42 :: (Lib.itoa 0 ++ [13, 10])).toArray⟩ := ba_ext (by simp)
  rw [hhead]
  clear hhead
  refine (writeString_any w1.heap.size w1.heap.size [] _ w2 HIB2.out (by rw [size_mk]; simp; omega) (by omega)).mono ?_
  rintro e w3 ⟨rfl, hib3, hb3⟩
  rw [List.nil_append, strCells_mk] at hib3
  have h13 : Below w1.heap.size w1 w3 := H12.out.trans hb3
  have hcl3 : w3.cell? ⟨w.heap.size, 3, none⟩ = some (.slice a 0 cap) := (h13.cell (p := ⟨w.heap.size, 3, none⟩) hz).trans HCL.out
  have HIB3 := hide hib3
  have H13 := hide h13
  clear HIB2 H12 hb3 hib3 h13
  go_wp2_with fail
  clear hcl3
  go_loopw [28] (fun i wr => i = .int .i64 0 ∧ Hid (Lib.IsBuilder 47 5 w1.heap.size w1.heap.size (Lib.byteCells (42 :: (Lib.itoa 0 ++ [13, 10]))) wr) ∧ Hid (Below w1.heap.size w1 wr)) (fun _ _ => 0)
  case atStart => exact ⟨rfl, HIB3, H13⟩
  case round =>
    clear HIB3 H13 HCL
    obtain ⟨rfl, HB, HK⟩ := hrel
    have hzr : w1.heap.size ≤ wr.heap.size := HK.out.size
    go_wp2_with fail
    refine (Tryd.Builder_String_any w1.heap.size w1.heap.size _ wr HB.out hzr).mono ?_
    rintro e w4 ⟨rfl, hb4⟩
    go_wp2
    go_ret2
    have hEL : pEncList [] = 42 :: (Lib.itoa 0 ++ [13, 10]) := by simp [pEncList, pBody]
    rw [hEL]
    exact ⟨rfl, HWW.out.trans ((HK.out.trans hb4).mono (by omega))⟩

/-- Encode, of what is right. -/
theorem encode_ok (k : Int) (t : ByteArray) (n : Int) (a : Option Addr) (cap : Nat) (rs : List Rep) (w : World) (he : Env w) (ht : t.size ≤ maxLen) (hl : ListAt w a rs) (hc : pCheck k t n rs = 0) :
    Calls Tryd.prog 7 #[.agg #[.int .i64 k, .string t, .int .i64 n, .slice a rs.length cap]] w fun e w' => e = .returned (.tuple #[.string ⟨(pEnc k t n rs).toArray⟩, .int .i64 0]) ∧ Below w.heap.size w w' := by
  by_cases hk : k = 6
  · subst hk
    rw [pEnc, if_pos rfl]
    obtain ⟨h1, rfl, h3, h4⟩ := check_list hc
    rcases hl with rfl | ⟨b, off, rfl, hr⟩
    · exact encode_nil t a cap w he h1
    · exact encode_list w.heap.size w t b off cap rs w (Below.refl _ _) (Nat.le_refl _) h1 hr h3 h4 ⟨itoaOk_env he _ (by omega) (by omega), itoa_len _ (by omega) (by omega)⟩ (fun r hr => fits_env he (first_all rs h4 r hr))
  · rw [pEnc, if_neg hk]
    exact encode_one k t n a cap rs w he hk ht hl hc
theorem pEnc_len {k : Int} {t : ByteArray} {n : Int} {rs : List Rep} {w : World} (he : Env w) (hc : pCheck k t n rs = 0) : (pEnc k t n rs).length ≤ 40000 := by
  by_cases hk : k = 6
  · subst hk
    obtain ⟨h1, rfl, h3, h4⟩ := check_list hc
    have h5 := pBody_le (B := w.heap.size) (w0 := w) rs (fun r hr => fits_env he (first_all rs h4 r hr))
    have h6 := itoa_len rs.length (by omega) (by omega)
    rw [pEnc, if_pos rfl, pEncList]
    simp
    omega
  · rw [pEnc, if_neg hk]
    rw [pCheck, if_neg hk] at hc
    have := Rep.enc_le (fits_env (r := ⟨k, t, n, none, rs.length, 0⟩) he hc)
    simp only [Rep.enc] at this
    omega
end Go.Proofs.YtolpmaapdkhigaaDoor
