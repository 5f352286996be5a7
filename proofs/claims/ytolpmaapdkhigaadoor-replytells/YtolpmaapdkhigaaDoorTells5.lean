/- WALK of the reference's check of a reply, whole. -/
import Derived.Test.YtolpmaapdkhigaaDoorTells4
import Derived.Handy
namespace Go.Proofs.YtolpmaapdkhigaaDoor
open Go.RowKit

set_option maxRecDepth 100000 in
set_option maxHeartbeats 2000000 in
theorem refReply_single (k : Int) (t : ByteArray) (n : Int) (a : Option Addr) (len cap : Nat) (w : World) (hk : ¬ k = 6) (ht : t.size ≤ maxLen) :
    Calls Tryd.prog 9 #[.agg #[.int .i64 k, .string t, .int .i64 n, .slice a len cap]] w fun e w' => e = .returned (.int .i64 (pCheck1 k t n len)) ∧ Below w.heap.size w w' := by
  have H1 : Hid (∀ w, Calls Tryd.prog 27 #[.agg #[.int .i64 k, .string t, .int .i64 n, .slice a len cap]] w fun e w' => e = .returned (.int .i64 (pCheck1 k t n len)) ∧ Below w.heap.size w w') := fun w => refOne_any k t n a len cap w ht
  clear ht
  go_enter Tryd.func9, Tryd.ntmps9
  go_wp2_with fail
  refine (H1.out _).mono ?_
  rintro e w1 ⟨rfl, hb1⟩
  go_wp2
  go_ret
  exact ⟨rfl, ((Below.refl _ w).alloc (Nat.le_refl _) _).trans (hb1.mono (by simp))⟩

set_option maxRecDepth 100000 in
set_option maxHeartbeats 2000000 in
theorem refReply_form (t : ByteArray) (n : Int) (a : Option Addr) (len cap : Nat) (w : World) (h : ¬ t.toList = [] ∨ ¬ n = 0) :
    Calls Tryd.prog 9 #[.agg #[.int .i64 6, .string t, .int .i64 n, .slice a len cap]] w fun e w' => e = .returned (.int .i64 1) ∧ Below w.heap.size w w' := by
  by_cases h1 : t.toList = []
  · have h2 : ¬ n = 0 := by rcases h with h | h; exact absurd h1 h; exact h
    clear h
    go_enter Tryd.func9, Tryd.ntmps9
    go_wp2
    all_goals go_ret
    all_goals exact ⟨rfl, (Below.refl _ _).alloc (Nat.le_refl _) _⟩
  · have h1b : t.toList.isEmpty = false := by simpa using h1
    clear h h1
    go_enter Tryd.func9, Tryd.ntmps9
    go_wp2
    all_goals go_ret
    all_goals exact ⟨rfl, (Below.refl _ _).alloc (Nat.le_refl _) _⟩

set_option maxRecDepth 100000 in
set_option maxHeartbeats 2000000 in
theorem refReply_many (t : ByteArray) (a : Option Addr) (len cap : Nat) (w : World) (ht : t.toList = []) (hl : (300 : Int) < len) :
    Calls Tryd.prog 9 #[.agg #[.int .i64 6, .string t, .int .i64 0, .slice a len cap]] w fun e w' => e = .returned (.int .i64 2) ∧ Below w.heap.size w w' := by
  go_enter Tryd.func9, Tryd.ntmps9
  go_wp2
  go_ret
  exact ⟨rfl, (Below.refl _ _).alloc (Nat.le_refl _) _⟩

set_option maxRecDepth 100000 in
set_option maxHeartbeats 2000000 in
theorem refReply_nil (t : ByteArray) (a : Option Addr) (cap : Nat) (w : World) (ht : t.toList = []) :
    Calls Tryd.prog 9 #[.agg #[.int .i64 6, .string t, .int .i64 0, .slice a 0 cap]] w fun e w' => e = .returned (.int .i64 0) ∧ Below w.heap.size w w' := by
  go_enter Tryd.func9, Tryd.ntmps9
  go_wp2
  go_loop [3] (fun i => i = .int .i64 0) (fun _ => 0)
  case atStart => rfl
  case round =>
    subst hrel
    go_wp2
    go_ret
    exact ⟨rfl, (Below.refl _ _).alloc (Nat.le_refl _) _⟩

set_option maxRecDepth 100000 in
set_option maxHeartbeats 2000000 in
theorem refReply_list (b off cap : Nat) (rs : List Rep) (w : World) (h : Reps w b off rs) (hn : rs.length ≤ 300) (t : ByteArray) (ht : t.toList = []) :
    Calls Tryd.prog 9 #[.agg #[.int .i64 6, .string t, .int .i64 0, .slice (some ⟨b, off, none⟩) rs.length cap]] w fun e w' => e = .returned (.int .i64 (pFirst rs)) ∧ Below w.heap.size w w' := by
  have HR := hide h
  clear h
  go_enter Tryd.func9, Tryd.ntmps9
  go_wp2
  go_loopw [3] (fun i wr => ∃ k : Nat, k ≤ rs.length ∧ i = .int .i64 k ∧ Below w.heap.size w wr ∧ wr.cell? ⟨w.heap.size, 3, none⟩ = some (.slice (some ⟨b, off, none⟩) rs.length cap) ∧ Hid (pFirst rs = pFirst (rs.drop k))) (fun i _ => rs.length - (intOf i).toNat)
  case atStart => exact ⟨0, Nat.zero_le _, rfl, (Below.refl _ _).alloc (Nat.le_refl _) _, by simp [go_sem], by simp [Hid]⟩
  case round =>
    obtain ⟨k, hk, rfl, hb, hc, HP⟩ := hrel
    have hz := World.block_lt_of_cell? _ _ hc
    simp only at hz
    by_cases hlt : k < rs.length
    · have hbl : b < w.heap.size := World.block_lt_of_cell? w _ (HR.out.c0 k hlt)
      have e0 := (hb.cell (p := ⟨b, off + k * 4, none⟩) hbl).trans (HR.out.c0 k hlt)
      have e1 := (hb.cell (p := ⟨b, off + k * 4 + 1, none⟩) hbl).trans (HR.out.c1 k hlt)
      have e2 := (hb.cell (p := ⟨b, off + k * 4 + 2, none⟩) hbl).trans (HR.out.c2 k hlt)
      have e3 := (hb.cell (p := ⟨b, off + k * 4 + 3, none⟩) hbl).trans (HR.out.c3 k hlt)
      have HS := hide (HR.out.small rs[k] (List.getElem_mem hlt))
      have hd : rs.drop k = rs[k] :: rs.drop (k + 1) := List.drop_eq_getElem_cons hlt
      have HOK : Hid (pCheck1 rs[k].k rs[k].t rs[k].n rs[k].len = 0 → pFirst rs = pFirst (rs.drop (k + 1))) := fun hx => by rw [HP.out, hd, pFirst_ok hx]
      have HBAD : Hid (¬ pCheck1 rs[k].k rs[k].t rs[k].n rs[k].len = 0 → pFirst rs = pCheck1 rs[k].k rs[k].t rs[k].n rs[k].len) := fun hx => by rw [HP.out, hd, pFirst_bad hx]
      clear hd HP
      go_wp2_with fail
      refine (refOne_any _ _ _ _ _ _ _ HS.out).mono ?_
      rintro e w1 ⟨rfl, hb1⟩
      have hb2 : Below w.heap.size w w1 := hb.trans (hb1.mono (by omega))
      have hc2 := (hb1.cell (p := ⟨w.heap.size, 3, none⟩) hz).trans hc
      clear e0 e1 e2 e3 hc hb1
      by_cases hz0 : pCheck1 rs[k].k rs[k].t rs[k].n rs[k].len = 0
      · rw [hz0]
        go_wp2
        go_roundw
        case rel => exact ⟨k + 1, by omega, by go_num, hb2, hc2, HOK.out hz0⟩
        case measure => simp [intOf]; omega
      · have hbad := hide (HBAD.out hz0)
        have hzb : (pCheck1 rs[k].k rs[k].t rs[k].n rs[k].len == 0) = false := by rw [beq_eq_false_iff_ne]; exact hz0
        clear HOK HBAD HS
        generalize pCheck1 rs[k].k rs[k].t rs[k].n rs[k].len = z at *
        go_wp2
        go_ret
        rw [hbad.out]
        exact ⟨rfl, hb2⟩
    · have hkk : k = rs.length := by omega
      subst hkk
      have HP2 : Hid (pFirst rs = 0) := by rw [Hid, HP.out, List.drop_length]; rfl
      go_wp2
      go_ret
      rw [HP2.out]
      exact ⟨rfl, hb⟩

/-- the reference's check is the program's -/
theorem refReply_any (k : Int) (t : ByteArray) (n : Int) (a : Option Addr) (cap : Nat) (rs : List Rep) (w : World) (ht : t.size ≤ maxLen) (hl : ListAt w a rs) :
    Calls Tryd.prog 9 #[.agg #[.int .i64 k, .string t, .int .i64 n, .slice a rs.length cap]] w fun e w' => e = .returned (.int .i64 (pCheck k t n rs)) ∧ Below w.heap.size w w' := by
  by_cases hk : k = 6
  · subst hk
    by_cases hf : ¬ t.toList = [] ∨ ¬ n = 0
    · rw [show pCheck 6 t n rs = 1 by rw [pCheck, if_pos rfl, if_pos hf]]
      exact refReply_form t n a _ cap w hf
    · have h1 : t.toList = [] := Decidable.byContradiction fun h => hf (.inl h)
      have h2 : n = 0 := Decidable.byContradiction fun h => hf (.inr h)
      subst h2
      by_cases hm : 300 < rs.length
      · rw [show pCheck 6 t 0 rs = 2 by rw [pCheck, if_pos rfl, if_neg hf, if_pos hm]]
        exact refReply_many t a _ cap w h1 (by omega)
      · rw [show pCheck 6 t 0 rs = pFirst rs by rw [pCheck, if_pos rfl, if_neg hf, if_neg hm]]
        rcases hl with rfl | ⟨b, off, rfl, hr⟩
        · exact refReply_nil t a cap w h1
        · exact refReply_list b off cap rs w hr (by omega) t h1
  · rw [show pCheck k t n rs = pCheck1 k t n rs.length by rw [pCheck, if_neg hk]]
    exact refReply_single k t n a _ cap w hk ht
end Go.Proofs.YtolpmaapdkhigaaDoor
