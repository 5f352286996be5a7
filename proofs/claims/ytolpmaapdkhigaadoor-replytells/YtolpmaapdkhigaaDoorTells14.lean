/- WALKS of the reference's bytes of a reply. -/
import Derived.Test.YtolpmaapdkhigaaDoorTells6
import Derived.Handy
namespace Go.Proofs.YtolpmaapdkhigaaDoor
open Go.RowKit

theorem bytes4_eq (D t : ByteArray) (h : D.data.toList = Lib.itoa t.size) :
    ((((⟨#[36]⟩ ++ D) ++ ⟨#[13, 10]⟩) ++ t) ++ ⟨#[13, 10]⟩ : ByteArray) = ⟨(pEnc1 4 t.data.toList 0).toArray⟩ := ba_ext (by
  rw [list_append, list_append, list_append, list_append, h]
  simp [pEnc1])

set_option maxRecDepth 100000 in
set_option maxHeartbeats 4000000 in
theorem refBytes_bytes (t : ByteArray) (n : Int) (a : Option Addr) (len cap : Nat) (w : World) (ht : t.size ≤ 60) :
    Calls Tryd.prog 10 #[.agg #[.int .i64 4, .string t, .int .i64 n, .slice a len cap]] w fun e w' => e = .returned (.string ⟨(pEnc1 4 t.data.toList 0).toArray⟩) ∧ Below w.heap.size w w' := by
  have HD : Hid (∀ w, Calls Tryd.prog 28 #[.int .i64 (t.size : Int)] w fun e w' => e = .returned (.string ⟨(Lib.itoa (t.size : Int)).toArray⟩) ∧ Below w.heap.size w w') := fun w => digits_any t.size (by omega) (by omega) w
  have hlen : (⟨(Lib.itoa (t.size : Int)).toArray⟩ : ByteArray).size ≤ 20 := by rw [size_mk]; exact itoa_len t.size (by omega) (by omega)
  have HV := hide (bytes4_eq ⟨(Lib.itoa (t.size : Int)).toArray⟩ t (by rw [toList_mk]))
  generalize (⟨(Lib.itoa (t.size : Int)).toArray⟩ : ByteArray) = D at *
  generalize (⟨(pEnc1 4 t.data.toList 0).toArray⟩ : ByteArray) = R at *
  have n1 : ¬ 9223372036854775807 < 1 + D.size := by omega
  have n2 : ¬ 9223372036854775807 < 1 + D.size + 2 := by omega
  have n3 : ¬ 9223372036854775807 < 1 + D.size + 2 + t.size := by omega
  have n4 : ¬ 9223372036854775807 < 1 + D.size + 2 + t.size + 2 := by omega
  go_enter Tryd.func10, Tryd.ntmps10
  go_wp2_with fail
  go_region_law (go_simp; refine (HD.out _).mono ?_; rintro e w1 ⟨rfl, hb1⟩; have hc1 : w1.cell? ⟨w.heap.size, 1, none⟩ = some (.string t) := (hb1.cell (p := ⟨w.heap.size, 1, none⟩) (by simp)).trans (by simp [go_sem]))
  all_goals go_wp2
  all_goals go_ret
  all_goals rw [← HV.out]
  all_goals exact ⟨rfl, (((Below.refl _ w).alloc (Nat.le_refl _) _).drew).trans (hb1.mono (by simp))⟩

/-- the reference's bytes of one reply that is right -/
theorem refBytes_one (k : Int) (t : ByteArray) (n : Int) (a : Option Addr) (len cap : Nat) (w : World) (hc : pCheck1 k t n len = 0) :
    Calls Tryd.prog 10 #[.agg #[.int .i64 k, .string t, .int .i64 n, .slice a len cap]] w fun e w' => e = .returned (.string ⟨(pEnc1 k t.data.toList n).toArray⟩) ∧ Below w.heap.size w w' := by
  obtain ⟨h1, h5, _, _, hn, k1, k2, k3, k4⟩ := check1_parts hc
  have hk : k = 1 ∨ k = 2 ∨ k = 3 ∨ k = 4 ∨ k = 5 := by omega
  rcases hk with rfl | rfl | rfl | rfl | rfl
  · rw [pEnc1, if_pos rfl]
    exact refBytes_text t n a len cap w (by have := (k1 rfl).1; omega)
  · rw [pEnc1, if_neg (by decide), if_pos rfl]
    exact refBytes_num 2 45 (.inl ⟨rfl, rfl⟩) t n a len cap w (by have := k2 rfl; omega) (by have := k2 rfl; omega)
  · rw [pEnc1, if_neg (by decide), if_neg (by decide), if_pos rfl]
    exact refBytes_num 3 58 (.inr ⟨rfl, rfl⟩) t n a len cap w (by have := k3 rfl; omega) (by have := k3 rfl; omega)
  · exact refBytes_bytes t n a len cap w (k4 rfl)
  · rw [pEnc1, if_neg (by decide), if_neg (by decide), if_neg (by decide), if_neg (by decide)]
    exact refBytes_none t n a len cap w

def headOf (m : Nat) : List UInt8 := 42 :: (Lib.itoa m ++ [13, 10])
theorem enc_small {r : Rep} (h : pCheck1 r.k r.t r.n r.len = 0) : r.enc.length ≤ 100 := by
  obtain ⟨h1, h5, _, _, hn, k1, k2, k3, k4⟩ := check1_parts h
  unfold Rep.enc pEnc1
  have hs := size_list r.t
  split
  · rename_i e; have := (k1 e).1; simp; omega
  · split
    · rename_i e; have := k2 e; have := itoa_len r.n (by omega) (by omega); simp; omega
    · split
      · rename_i e; have := k3 e; have := itoa_len r.n (by omega) (by omega); simp; omega
      · split
        · rename_i e; have := k4 e; rw [itoa_len_cast]; have := itoa_len r.t.size (by omega) (by omega); simp; omega
        · simp
theorem body_succ (rs : List Rep) (k : Nat) (h : k < rs.length) : pBody (rs.take (k + 1)) = pBody (rs.take k) ++ rs[k].enc := by
  unfold pBody
  rw [pBody_take_succ rs k h]
  simp
theorem body_small (rs : List Rep) (hr : ∀ r ∈ rs, pCheck1 r.k r.t r.n r.len = 0) : ∀ k, k ≤ rs.length → (pBody (rs.take k)).length ≤ k * 100
  | 0, _ => by simp [pBody]
  | k + 1, h => by
    rw [body_succ rs k (by omega), List.length_append]
    have h1 := body_small rs hr k (by omega)
    have h2 := enc_small (hr rs[k] (List.getElem_mem (by omega)))
    omega

set_option maxRecDepth 100000 in
set_option maxHeartbeats 4000000 in
theorem refBytes_nil (t : ByteArray) (n : Int) (a : Option Addr) (cap : Nat) (w : World) :
    Calls Tryd.prog 10 #[.agg #[.int .i64 6, .string t, .int .i64 n, .slice a 0 cap]] w fun e w' => e = .returned (.string ⟨(pEncList []).toArray⟩) ∧ Below w.heap.size w w' := by
  have HD : Hid (∀ w, Calls Tryd.prog 28 #[.int .i64 0] w fun e w' => e = .returned (.string ⟨(Lib.itoa 0).toArray⟩) ∧ Below w.heap.size w w') := fun w => digits_any 0 (by omega) (by omega) w
  have hlen : (⟨(Lib.itoa 0).toArray⟩ : ByteArray).size ≤ 20 := by rw [size_mk]; exact itoa_len 0 (by omega) (by omega)
  have HV : Hid ((⟨#[42]⟩ ++ ⟨(Lib.itoa 0).toArray⟩ ++ ⟨#[13, 10]⟩ : ByteArray) = ⟨(pEncList []).toArray⟩) := ba_ext (by rw [list_append, list_append]; simp [pEncList, pBody])
  generalize (⟨(Lib.itoa 0).toArray⟩ : ByteArray) = D at *
  generalize (⟨(pEncList []).toArray⟩ : ByteArray) = R at *
  go_enter Tryd.func10, Tryd.ntmps10
  go_wp2_with fail
  refine (HD.out _).mono ?_
  rintro e w1 ⟨rfl, hb1⟩
  have hb : Below w.heap.size w w1 := ((Below.refl _ w).alloc (Nat.le_refl _) _).trans (hb1.mono (by simp))
  have hc1 : w1.cell? ⟨w.heap.size, 3, none⟩ = some (.slice a 0 cap) := (hb1.cell (p := ⟨w.heap.size, 3, none⟩) (by simp)).trans (by simp [go_sem])
  clear hb1
  go_wp2_with fail
  go_loop [4, 5] (fun v i => v = .string R ∧ i = .int .i64 0) (fun _ _ => 0)
  case atStart => exact ⟨by rw [HV.out], rfl⟩
  case round =>
    obtain ⟨rfl, rfl⟩ := hrel
    go_wp2_with fail
    go_ret
    exact ⟨rfl, hb⟩

set_option maxRecDepth 100000 in
set_option maxHeartbeats 4000000 in
theorem refBytes_list (t : ByteArray) (n : Int) (b off cap : Nat) (rs : List Rep) (w : World) (h : Reps w b off rs) (hn : rs.length ≤ 300) (hr : ∀ r ∈ rs, pCheck1 r.k r.t r.n r.len = 0) :
    Calls Tryd.prog 10 #[.agg #[.int .i64 6, .string t, .int .i64 n, .slice (some ⟨b, off, none⟩) rs.length cap]] w fun e w' => e = .returned (.string ⟨(pEncList rs).toArray⟩) ∧ Below w.heap.size w w' := by
  have HR := hide h
  have HC := hide hr
  have HD : Hid (∀ w, Calls Tryd.prog 28 #[.int .i64 (rs.length : Int)] w fun e w' => e = .returned (.string ⟨(Lib.itoa (rs.length : Int)).toArray⟩) ∧ Below w.heap.size w w') := fun w => digits_any rs.length (by omega) (by omega) w
  have hlen : (⟨(Lib.itoa (rs.length : Int)).toArray⟩ : ByteArray).size ≤ 20 := by rw [size_mk]; exact itoa_len rs.length (by omega) (by omega)
  have hhl : (headOf rs.length).length ≤ 23 := by have := itoa_len rs.length (by omega) (by omega); simp [headOf]; omega
  have HV : Hid ((⟨#[42]⟩ ++ ⟨(Lib.itoa (rs.length : Int)).toArray⟩ ++ ⟨#[13, 10]⟩ : ByteArray) = ⟨(headOf rs.length ++ pBody (rs.take 0)).toArray⟩) := ba_ext (by rw [list_append, list_append]; simp [headOf, pBody])
  have HE : Hid (pEncList rs = headOf rs.length ++ pBody (rs.take rs.length)) := by rw [Hid, pEncList, List.take_length]; rfl
  generalize (⟨(Lib.itoa (rs.length : Int)).toArray⟩ : ByteArray) = D at *
  clear h hr
  go_enter Tryd.func10, Tryd.ntmps10
  go_wp2_with fail
  refine (HD.out _).mono ?_
  rintro e w1 ⟨rfl, hb1⟩
  have hb : Below w.heap.size w w1 := ((Below.refl _ w).alloc (Nat.le_refl _) _).trans (hb1.mono (by simp))
  have hc1 : w1.cell? ⟨w.heap.size, 3, none⟩ = some (.slice (some ⟨b, off, none⟩) rs.length cap) := (hb1.cell (p := ⟨w.heap.size, 3, none⟩) (by simp)).trans (by simp [go_sem])
  clear hb1 HD
  go_wp2_with fail
  go_loopw [4, 5] (fun v i wr => ∃ k : Nat, k ≤ rs.length ∧ i = .int .i64 k ∧ v = .string ⟨(headOf rs.length ++ pBody (rs.take k)).toArray⟩ ∧ Below w.heap.size w wr ∧ wr.cell? ⟨w.heap.size, 3, none⟩ = some (.slice (some ⟨b, off, none⟩) rs.length cap)) (fun _ i _ => rs.length - (intOf i).toNat)
  case atStart => exact ⟨0, Nat.zero_le _, rfl, by rw [HV.out], hb, hc1⟩
  case round =>
    clear hb hc1 HV
    obtain ⟨k, hk, rfl, rfl, hb, hc⟩ := hrel
    have hz := World.block_lt_of_cell? _ _ hc
    simp only at hz
    by_cases hlt : k < rs.length
    · have hbl : b < w.heap.size := World.block_lt_of_cell? w _ (HR.out.c0 k hlt)
      have e0 := (hb.cell (p := ⟨b, off + k * 4, none⟩) hbl).trans (HR.out.c0 k hlt)
      have e1 := (hb.cell (p := ⟨b, off + k * 4 + 1, none⟩) hbl).trans (HR.out.c1 k hlt)
      have e2 := (hb.cell (p := ⟨b, off + k * 4 + 2, none⟩) hbl).trans (HR.out.c2 k hlt)
      have e3 := (hb.cell (p := ⟨b, off + k * 4 + 3, none⟩) hbl).trans (HR.out.c3 k hlt)
      have H1 : Hid (∀ W, Calls Tryd.prog 10 #[.agg #[.int .i64 rs[k].k, .string rs[k].t, .int .i64 rs[k].n, .slice rs[k].a rs[k].len rs[k].cap]] W fun e w' => e = .returned (.string ⟨(rs[k].enc).toArray⟩) ∧ Below W.heap.size W w') := fun W => refBytes_one _ _ _ _ _ _ W (HC.out rs[k] (List.getElem_mem hlt))
      have hp1 : (⟨(headOf rs.length ++ pBody (rs.take k)).toArray⟩ : ByteArray).size ≤ 40000 := by
        rw [size_mk, List.length_append]
        have := body_small rs HC.out k (by omega)
        omega
      have hp2 : (⟨(rs[k].enc).toArray⟩ : ByteArray).size ≤ 100 := by rw [size_mk]; exact enc_small (HC.out rs[k] (List.getElem_mem hlt))
      have HJ : Hid ((⟨(headOf rs.length ++ pBody (rs.take k)).toArray⟩ ++ ⟨(rs[k].enc).toArray⟩ : ByteArray) = ⟨(headOf rs.length ++ pBody (rs.take (k + 1))).toArray⟩) := ba_ext (by rw [list_append, toList_mk, toList_mk, body_succ rs k hlt, List.append_assoc])
      generalize (⟨(headOf rs.length ++ pBody (rs.take k)).toArray⟩ : ByteArray) = P1 at *
      generalize (⟨(rs[k].enc).toArray⟩ : ByteArray) = P2 at *
      go_wp2_with fail
      refine (H1.out _).mono ?_
      rintro e w2 ⟨rfl, hb2⟩
      have hb3 : Below w.heap.size w w2 := hb.trans (hb2.mono (by omega))
      have hc2 := (hb2.cell (p := ⟨w.heap.size, 3, none⟩) hz).trans hc
      clear e0 e1 e2 e3 hc hb2 H1
      go_wp2_with fail
      go_roundw
      case rel => exact ⟨k + 1, by omega, by go_num, by rw [HJ.out], hb3, hc2⟩
      case measure => simp [intOf]; omega
    · have hkk : k = rs.length := by omega
      subst hkk
      rw [← HE.out]
      go_wp2_with fail
      go_ret
      exact ⟨rfl, hb⟩

/-- the reference's bytes of a reply that is right -/
theorem refBytes_any (k : Int) (t : ByteArray) (n : Int) (a : Option Addr) (cap : Nat) (rs : List Rep) (w : World) (hl : ListAt w a rs) (hc : pCheck k t n rs = 0) :
    Calls Tryd.prog 10 #[.agg #[.int .i64 k, .string t, .int .i64 n, .slice a rs.length cap]] w fun e w' => e = .returned (.string ⟨(pEnc k t n rs).toArray⟩) ∧ Below w.heap.size w w' := by
  by_cases hk : k = 6
  · subst hk
    rw [pEnc, if_pos rfl]
    obtain ⟨h1, rfl, h3, h4⟩ := check_list hc
    rcases hl with rfl | ⟨b, off, rfl, hr⟩
    · exact refBytes_nil t 0 a cap w
    · exact refBytes_list t 0 b off cap rs w hr h3 (first_all rs h4)
  · rw [pEnc, if_neg hk]
    rw [pCheck, if_neg hk] at hc
    exact refBytes_one k t n a rs.length cap w hc
end Go.Proofs.YtolpmaapdkhigaaDoor
