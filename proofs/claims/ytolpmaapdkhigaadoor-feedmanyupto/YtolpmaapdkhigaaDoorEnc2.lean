/- WALKS of Encode. -/
import Derived.Test.YtolpmaapdkhigaaDoorEnc1
namespace Go.Proofs.YtolpmaapdkhigaaDoor
open Go.RowKit

theorem builder_kept {T e : TypeId} {B b : Nat} {p : Value} {bs : List Value} {w w' : World} (h : Lib.BuilderAt T e B b p bs w) (hb : Below w.heap.size w w') : Lib.BuilderAt T e B b p bs w' := by
  obtain ⟨h1, v, h2, h3, h4⟩ := h
  refine ⟨h1, v, ?_, ?_, h4⟩
  · rw [hb.block b (Array.getElem?_eq_some_iff.1 h2).1]; exact h2
  · exact (Kept.of_below hb (fun _ => False)).owns h3 (fun _ _ e => e)
theorem isBuilder_kept {T e : TypeId} {B b : Nat} {bs : List Value} {w w' : World} (h : Lib.IsBuilder T e B b bs w) (hb : Below w.heap.size w w') : Lib.IsBuilder T e B b bs w' := by
  rcases h with h | h
  · exact .inl (builder_kept h hb)
  · exact .inr (builder_kept h hb)

def Rep.enc (r : Rep) : List UInt8 := pEnc1 r.k r.t.data.toList r.n
/-- what encoding one reply asks -/
def Rep.fits (B : Nat) (w0 : World) (r : Rep) : Prop :=
  (r.k = 2 ∨ r.k = 3 → ItoaOk B w0 r.n ∧ (Lib.itoa r.n).length ≤ 20) ∧ (r.k = 4 → ItoaOk B w0 r.t.size ∧ (Lib.itoa r.t.size).length ≤ 20) ∧ r.t.size ≤ 60

theorem itoa_len_cast (t : ByteArray) : (Lib.itoa (t.data.toList.length : Int)) = Lib.itoa t.size := by rw [size_list]

theorem Rep.enc_le {B : Nat} {w0 : World} {r : Rep} (h : r.fits B w0) : r.enc.length ≤ 100 := by
  obtain ⟨h1, h2, h3⟩ := h
  have hs := size_list r.t
  unfold Rep.enc pEnc1
  split
  · simp; omega
  · split
    · rename_i e; have := (h1 (.inl e)).2; simp; omega
    · split
      · rename_i e; have := (h1 (.inr e)).2; simp; omega
      · split
        · rename_i e; have := (h2 e).2; rw [itoa_len_cast]; simp; omega
        · simp

theorem pBody_take_succ (rs : List Rep) (k : Nat) (h : k < rs.length) : (rs.take (k + 1)).map Rep.enc = (rs.take k).map Rep.enc ++ [rs[k].enc] := by
  rw [List.take_succ_eq_append_getElem h, List.map_append, List.map_cons, List.map_nil]
def pBody (rs : List Rep) : List UInt8 := (rs.map Rep.enc).flatten
def pEncList (rs : List Rep) : List UInt8 := (42 :: (Lib.itoa rs.length ++ [13, 10])) ++ pBody rs

theorem pBody_le {B : Nat} {w0 : World} : ∀ (rs : List Rep), (∀ r ∈ rs, r.fits B w0) → (pBody rs).length ≤ rs.length * 100
  | [], _ => by simp [pBody]
  | r :: rs, h => by
    have h1 := Rep.enc_le (h r (by simp))
    have h2 := pBody_le rs (fun x hx => h x (by simp [hx]))
    simp only [pBody, List.map_cons, List.flatten_cons, List.length_append, List.length_cons] at *
    omega

theorem strCells_mk (l : List UInt8) : Lib.strCells ⟨l.toArray⟩ = Lib.byteCells l := by simp [Lib.strCells, Lib.byteCells]
theorem byteCells_append (a b : List UInt8) : Lib.byteCells a ++ Lib.byteCells b = Lib.byteCells (a ++ b) := by simp [Lib.byteCells]

set_option maxRecDepth 100000 in
set_option maxHeartbeats 1000000 in
theorem encode_err (t : ByteArray) (k n : Int) (a : Option Addr) (cap : Nat) (rs : List Rep) (w : World) (ht : t.size ≤ maxLen) (hl : ListAt w a rs) (hne : ¬ pCheck k t n rs = 0) :
    Calls Tryd.prog 7 #[.agg #[.int .i64 k, .string t, .int .i64 n, .slice a rs.length cap]] w fun e w' => e = .returned (.tuple #[.string ⟨#[]⟩, .int .i64 (pCheck k t n rs)]) ∧ Below w.heap.size w w' := by
  have hl1 : ∀ o, ListAt (w.alloc o) a rs := fun o => by
    rcases hl with hl | ⟨b, off, ha, hr⟩
    · exact .inl hl
    · exact .inr ⟨b, off, ha, hr.kept (S := fun _ => False) ((Kept.refl _ w).alloc o) (fun e => e)⟩
  have HL := hide hl1
  have HT := hide ht
  have hb : (pCheck k t n rs != 0) = true := by rw [bne_iff_ne]; exact hne
  clear hl1 hl hne ht
  go_enter Tryd.func7, Tryd.ntmps7
  go_wp2_with (go_at_call 13; refine (check_any k t n a cap rs _ (unhide HT) (HL.out _)).mono ?_; rintro e w1 ⟨rfl, hb1⟩)
  go_ret2
  exact ⟨rfl, ((Below.refl _ w).alloc (Nat.le_refl _) _).trans (hb1.mono (by simp))⟩

set_option maxRecDepth 100000 in
set_option maxHeartbeats 1000000 in
theorem encode_list (B : Nat) (w0 : World) (t : ByteArray) (b off cap : Nat) (rs : List Rep) (w : World) (hw : Below B w0 w) (hB : B ≤ w.heap.size) (ht : t.toList = []) (h : Reps w b off rs) (hlen : rs.length ≤ 300) (hc : pFirst rs = 0)
    (hI : ItoaOk B w0 rs.length ∧ (Lib.itoa rs.length).length ≤ 20) (hf : ∀ r ∈ rs, r.fits B w0) :
    Calls Tryd.prog 7 #[.agg #[.int .i64 6, .string t, .int .i64 0, .slice (some ⟨b, off, none⟩) rs.length cap]] w fun e w' => e = .returned (.tuple #[.string ⟨(pEncList rs).toArray⟩, .int .i64 0]) ∧ Below w.heap.size w w' := by
  have HF := hide hf
  have HC : Hid (∀ o, Calls Tryd.prog 13 #[.agg #[.int .i64 6, .string t, .int .i64 0, .slice (some ⟨b, off, none⟩) rs.length cap]] (w.alloc o) fun e w' => e = .returned (.int .i64 0) ∧ Below (w.alloc o).heap.size (w.alloc o) w') := fun o => by
    have := checkList_any b off cap rs (w.alloc o) (h.kept (S := fun _ => False) ((Kept.refl _ w).alloc o) (fun e => e)) hlen t ht
    rw [hc] at this
    exact this
  have HH := hide h
  obtain ⟨hI1, hI2⟩ := hI
  have HI := hide hI1
  have HW := hide hw
  clear hf h hI1 hw hc
  go_enter Tryd.func7, Tryd.ntmps7
  go_wp2_with (go_at_call 13; refine (HC.out _).mono ?_; rintro e w1 ⟨rfl, hb1⟩; obtain ⟨hc1, hf1⟩ := bcell hb1; have hz : w.heap.size < w1.heap.size := by have := hb1.size; simp at this; omega)
  have hx1 : Below B w0 (w1.alloc (.cells #[.pointer none, .slice none 0 0] 47)) :=
    (((HW.out.alloc hB _).trans (hb1.mono (by simp; omega))).alloc (by omega) _)
  have hcl : w1.cell? ⟨w.heap.size, 3, none⟩ = some (.slice (some ⟨b, off, none⟩) rs.length cap) := by
    rw [hc1 _ _ (by simp)]
    simp [go_sem]
  have hreps : Reps w1 b off rs := (HH.out.kept (S := fun _ => False) ((Kept.refl _ w).alloc _) (fun e => e)).kept (Kept.of_below hb1 (fun _ => False)) (fun e => e)
  have hww1 : Below w.heap.size w w1 := ((Below.refl _ w).alloc (Nat.le_refl _) _).trans (hb1.mono (by simp))
  have HWW := hide hww1
  have HR := hide hreps
  have HCL := hide hcl
  have hib : Lib.IsBuilder 47 5 w1.heap.size w1.heap.size [] (w1.alloc (.cells #[.pointer none, .slice none 0 0] 47)) :=
    .inl ⟨Nat.le_refl _, .slice none 0 0, heap_alloc_new w1 _, World.ownsRow_nil _ _ _ _, by simp [Value.ownBlock]⟩
  have HIB := hide hib
  clear hc1 hf1 hb1 hcl hreps hww1 hib HC HH
  refine (HI.out _ hx1).mono ?_
  rintro e w2 ⟨rfl, hb2⟩
  have hib2 := isBuilder_kept HIB.out hb2
  have hz2 : w1.heap.size + 1 ≤ w2.heap.size := by have := hb2.size; simpa using this
  have h12 : Below w1.heap.size w1 w2 := ((Below.refl _ w1).alloc (Nat.le_refl _) _).trans (hb2.mono (by simp))
  have H12 := hide h12
  have HIB2 := hide hib2
  clear HIB HI hx1 hb2 h12 hib2
  go_wp2_with fail
  have hhead : (⟨#[42]⟩ ++ ⟨(Lib.itoa rs.length).toArray⟩ ++ ⟨#[13, 10]⟩ : ByteArray) = ⟨(42 :: (Lib.itoa rs.length ++ [13, 10])).toArray⟩ := ba_ext (by simp)
  rw [hhead]
  clear hhead
  refine (writeString_any w1.heap.size w1.heap.size [] _ w2 HIB2.out (by rw [size_mk]; simp; omega) (by omega)).mono ?_
  rintro e w3 ⟨rfl, hib3, hb3⟩
  rw [List.nil_append, strCells_mk] at hib3
  have h13 : Below w1.heap.size w1 w3 := H12.out.trans hb3
  have hcl3 : w3.cell? ⟨w.heap.size, 3, none⟩ = some (.slice (some ⟨b, off, none⟩) rs.length cap) := (h13.cell (p := ⟨w.heap.size, 3, none⟩) hz).trans HCL.out
  have HIB3 := hide hib3
  have H13 := hide h13
  clear HIB2 H12 hb3 hib3 h13
  go_wp2_with fail
  clear hcl3
  go_loopw [28] (fun i wr => ∃ k : Nat, k ≤ rs.length ∧ i = .int .i64 k ∧ Hid (Lib.IsBuilder 47 5 w1.heap.size w1.heap.size (Lib.byteCells ((42 :: (Lib.itoa rs.length ++ [13, 10])) ++ pBody (rs.take k))) wr) ∧ Hid (Below w1.heap.size w1 wr)) (fun i _ => rs.length - (intOf i).toNat)
  case atStart => exact ⟨0, Nat.zero_le _, rfl, by rw [List.take_zero]; simpa [Hid, pBody] using HIB3.out, H13⟩
  case round =>
    clear HIB3 H13 HCL
    obtain ⟨k, hk, rfl, HB, HK⟩ := hrel
    have hzr : w1.heap.size ≤ wr.heap.size := HK.out.size
    by_cases hlt : k < rs.length
    · have hbl : b < w1.heap.size := World.block_lt_of_cell? w1 _ (HR.out.c0 k hlt)
      have e0 : wr.cell? ⟨b, off + k * 4, none⟩ = some (.int .i64 rs[k].k) := (HK.out.cell (p := ⟨b, off + k * 4, none⟩) hbl).trans (HR.out.c0 k hlt)
      have e1 : wr.cell? ⟨b, off + k * 4 + 1, none⟩ = some (.string rs[k].t) := (HK.out.cell (p := ⟨b, off + k * 4 + 1, none⟩) hbl).trans (HR.out.c1 k hlt)
      have e2 : wr.cell? ⟨b, off + k * 4 + 2, none⟩ = some (.int .i64 rs[k].n) := (HK.out.cell (p := ⟨b, off + k * 4 + 2, none⟩) hbl).trans (HR.out.c2 k hlt)
      have e3 : wr.cell? ⟨b, off + k * 4 + 3, none⟩ = some (.slice rs[k].a rs[k].len rs[k].cap) := (HK.out.cell (p := ⟨b, off + k * 4 + 3, none⟩) hbl).trans (HR.out.c3 k hlt)
      have hfit := HF.out rs[k] (List.getElem_mem hlt)
      have hel := Rep.enc_le hfit
      have HFIT := hide hfit
      have HEL := hide hel
      clear hfit hel
      have hBr : Hid (∀ o, Below B w0 (wr.alloc o)) := fun o => ((HW.out.trans (HWW.out.mono hB)).trans (HK.out.mono (by omega))).alloc (by omega) o
      have hbody := pBody_le (rs.take k) (fun x hx => HF.out x (List.mem_of_mem_take hx))
      have hlk : (rs.take k).length ≤ 300 := by rw [List.length_take]; omega
      have HBODY := hide hbody
      clear hbody
      go_wp2_with fail
      refine (encSingle_any B w0 _ _ _ _ _ _ _ (hBr.out _) (by simp; omega) (by have := HFIT.out.2.2; omega) HFIT.out.1 HFIT.out.2.1).mono ?_
      rintro e w4 ⟨rfl, hb4⟩
      have hib4 := isBuilder_kept (isBuilder_kept HB.out ((Below.refl _ wr).alloc (Nat.le_refl _) _)) hb4
      have hz4 : wr.heap.size + 1 ≤ w4.heap.size := by have := hb4.size; simpa using this
      have h4 : Below w1.heap.size wr w4 := ((Below.refl _ wr).alloc hzr _).trans (hb4.mono (by simp; omega))
      have HIB4 := hide hib4
      have H4 := hide h4
      clear hib4 h4 hb4 e0 e1 e2 e3 HB
      go_wp2_with fail
      refine (writeString_any w1.heap.size w1.heap.size _ _ w4 HIB4.out ?_ (by omega)).mono ?_
      · have := HBODY.out
        have := HEL.out
        simp only [Rep.enc] at this
        rw [size_mk, Lib.byteCells_length]
        simp
        omega
      rintro e w5 ⟨rfl, hib5, hb5⟩
      rw [strCells_mk, byteCells_append] at hib5
      have hib6 : Lib.IsBuilder 47 5 w1.heap.size w1.heap.size (Lib.byteCells ((42 :: (Lib.itoa rs.length ++ [13, 10])) ++ pBody (rs.take (k + 1)))) w5 := by
        have e6 : pBody (rs.take (k + 1)) = pBody (rs.take k) ++ pEnc1 rs[k].k rs[k].t.data.toList rs[k].n := by
          simp only [pBody, pBody_take_succ rs k hlt, List.flatten_append, List.flatten_cons, List.flatten_nil, List.append_nil, Rep.enc]
        rw [e6, ← List.append_assoc]
        exact hib5
      have HIB6 := hide hib6
      have H6 : Hid (Below w1.heap.size w1 w5) := (HK.out.trans H4.out).trans hb5
      clear hib5 hib6 hb5
      go_wp2
      go_roundw
      case rel => exact ⟨k + 1, by omega, by go_num, HIB6, H6⟩
      case measure => simp [intOf]; omega
    · have hkk : k = rs.length := by omega
      subst hkk
      rw [List.take_length] at HB
      go_wp2_with fail
      refine (Tryd.Builder_String_any w1.heap.size w1.heap.size _ wr HB.out hzr).mono ?_
      rintro e w4 ⟨rfl, hb4⟩
      go_wp2
      go_ret2
      have hEL : pEncList rs = 42 :: (Lib.itoa rs.length ++ 13 :: 10 :: pBody rs) := by simp [pEncList]
      rw [hEL]
      exact ⟨rfl, HWW.out.trans ((HK.out.trans hb4).mono (by omega))⟩
end Go.Proofs.YtolpmaapdkhigaaDoor
