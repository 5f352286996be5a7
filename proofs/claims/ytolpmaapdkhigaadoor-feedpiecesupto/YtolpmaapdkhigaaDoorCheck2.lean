/- WALKS of the check of replies. -/
import Derived.Test.YtolpmaapdkhigaaDoorCheck1
namespace Go.Proofs.YtolpmaapdkhigaaDoor
open Go.RowKit

/-- a reply, flat: what its list is, is an address -/
structure Rep where
  k : Int
  t : ByteArray
  n : Int
  a : Option Addr
  len : Nat
  cap : Nat

def Rep.val (r : Rep) : Value := .agg #[.int .i64 r.k, .string r.t, .int .i64 r.n, .slice r.a r.len r.cap]

/-- the replies rs lie from offset off of block b on -/
structure Reps (w : World) (b off : Nat) (rs : List Rep) : Prop where
  c0 : ∀ i (h : i < rs.length), w.cell? ⟨b, off + i * 4, none⟩ = some (.int .i64 rs[i].k)
  c1 : ∀ i (h : i < rs.length), w.cell? ⟨b, off + i * 4 + 1, none⟩ = some (.string rs[i].t)
  c2 : ∀ i (h : i < rs.length), w.cell? ⟨b, off + i * 4 + 2, none⟩ = some (.int .i64 rs[i].n)
  c3 : ∀ i (h : i < rs.length), w.cell? ⟨b, off + i * 4 + 3, none⟩ = some (.slice rs[i].a rs[i].len rs[i].cap)
  small : ∀ r ∈ rs, r.t.size ≤ maxLen

def pCheck1R (r : Rep) : Int := pCheck1 r.k r.t r.n r.len
/-- the first one that is wrong -/
def pFirst : List Rep → Int
  | [] => 0
  | r :: rs => if pCheck1R r = 0 then pFirst rs else pCheck1R r
theorem pFirst_ok {r : Rep} {rs : List Rep} (h : pCheck1 r.k r.t r.n r.len = 0) : pFirst (r :: rs) = pFirst rs := if_pos h
theorem pFirst_bad {r : Rep} {rs : List Rep} (h : ¬ pCheck1 r.k r.t r.n r.len = 0) : pFirst (r :: rs) = pCheck1 r.k r.t r.n r.len := if_neg h
def pCheck (k : Int) (t : ByteArray) (n : Int) (rs : List Rep) : Int :=
  if k = 6 then (if ¬ t.toList = [] ∨ ¬ n = 0 then 1 else if 300 < rs.length then 2 else pFirst rs) else pCheck1 k t n rs.length

theorem Reps.kept {w w' : World} {b off : Nat} {rs : List Rep} (h : Reps w b off rs) {S : Nat → Prop} (hk : Kept S w w') (hs : ¬ S b) : Reps w' b off rs :=
  ⟨fun i hi => hk.cell' (h.c0 i hi) hs, fun i hi => hk.cell' (h.c1 i hi) hs, fun i hi => hk.cell' (h.c2 i hi) hs, fun i hi => hk.cell' (h.c3 i hi) hs, h.small⟩

set_option maxRecDepth 100000 in
set_option maxHeartbeats 1000000 in
theorem checkList_any (b off cap : Nat) (rs : List Rep) (w : World) (h : Reps w b off rs) (hn : rs.length ≤ 300) (t : ByteArray) (ht : t.toList = []) :
    Calls Tryd.prog 13 #[.agg #[.int .i64 6, .string t, .int .i64 0, .slice (some ⟨b, off, none⟩) rs.length cap]] w fun e w' => e = .returned (.int .i64 (pFirst rs)) ∧ Below w.heap.size w w' := by
  go_enter Tryd.func13, Tryd.ntmps13
  go_wp2
  go_loopw [26] (fun i wr => ∃ k : Nat, k ≤ rs.length ∧ i = .int .i64 k ∧ Below w.heap.size w wr ∧ Hid (pFirst rs = pFirst (rs.drop k))) (fun i _ => rs.length - (intOf i).toNat)
  case atStart => exact ⟨0, Nat.zero_le _, rfl, (Below.refl _ _).alloc (Nat.le_refl _) _, rfl⟩
  case round =>
    obtain ⟨k, hk, rfl, hb, HP⟩ := hrel
    by_cases hlt : k < rs.length
    · have hkb : b < w.heap.size := World.block_lt_of_cell? w _ (h.c0 k hlt)
      have e0 : wr.cell? ⟨b, off + k * 4, none⟩ = some (.int .i64 rs[k].k) := (hb.cell (p := ⟨b, off + k * 4, none⟩) hkb).trans (h.c0 k hlt)
      have e1 : wr.cell? ⟨b, off + k * 4 + 1, none⟩ = some (.string rs[k].t) := (hb.cell (p := ⟨b, off + k * 4 + 1, none⟩) hkb).trans (h.c1 k hlt)
      have e2 : wr.cell? ⟨b, off + k * 4 + 2, none⟩ = some (.int .i64 rs[k].n) := (hb.cell (p := ⟨b, off + k * 4 + 2, none⟩) hkb).trans (h.c2 k hlt)
      have e3 : wr.cell? ⟨b, off + k * 4 + 3, none⟩ = some (.slice rs[k].a rs[k].len rs[k].cap) := (hb.cell (p := ⟨b, off + k * 4 + 3, none⟩) hkb).trans (h.c3 k hlt)
      have hd : rs.drop k = rs[k] :: rs.drop (k + 1) := List.drop_eq_getElem_cons hlt
      have HD := hide hd
      have hsm : rs[k].t.size ≤ maxLen := h.small _ (List.getElem_mem hlt)
      have HSM := hide hsm
      clear hd hsm
      by_cases hz : pCheck1 rs[k].k rs[k].t rs[k].n rs[k].len = 0
      · have HS : Hid (pFirst rs = pFirst (rs.drop (k + 1))) := by
          rw [HP.out, HD.out]
          exact pFirst_ok hz
        have hzb : (pCheck1 rs[k].k rs[k].t rs[k].n rs[k].len != 0) = false := by rw [hz]; rfl
        clear hz
        go_wp2_with (go_at_call 30; refine (checkSingle_any _ _ _ _ _ _ _ (unhide HSM)).mono ?_; rintro e w1 ⟨rfl, hb1⟩)
        go_roundw
        case rel => exact ⟨k + 1, by omega, by go_num, (hb.alloc hb.size _).trans (hb1.mono (by have := hb.size; simp; omega)), HS⟩
        case measure => simp [intOf]; omega
      · have HS : Hid (pFirst rs = pCheck1 rs[k].k rs[k].t rs[k].n rs[k].len) := by
          rw [HP.out, HD.out]
          exact pFirst_bad hz
        have hzb : (pCheck1 rs[k].k rs[k].t rs[k].n rs[k].len != 0) = true := by rw [bne_iff_ne]; exact hz
        clear hz
        go_wp2_with (go_at_call 30; refine (checkSingle_any _ _ _ _ _ _ _ (unhide HSM)).mono ?_; rintro e w1 ⟨rfl, hb1⟩)
        go_ret
        rw [HS.out]
        exact ⟨rfl, (hb.alloc hb.size _).trans (hb1.mono (by have := hb.size; simp; omega))⟩
    · have HS : Hid (pFirst rs = 0) := by
        rw [HP.out, List.drop_of_length_le (by omega)]
        rfl
      go_wp2
      go_ret
      rw [HS.out]
      exact ⟨rfl, hb⟩

set_option maxRecDepth 100000 in
set_option maxHeartbeats 1000000 in
theorem checkNil_any (a : Option Addr) (cap : Nat) (w : World) (t : ByteArray) (ht : t.toList = []) :
    Calls Tryd.prog 13 #[.agg #[.int .i64 6, .string t, .int .i64 0, .slice a 0 cap]] w fun e w' => e = .returned (.int .i64 0) ∧ Below w.heap.size w w' := by
  go_enter Tryd.func13, Tryd.ntmps13
  go_wp2
  go_loopw [26] (fun i wr => i = .int .i64 0 ∧ Below w.heap.size w wr) (fun _ _ => 0)
  case atStart => exact ⟨rfl, (Below.refl _ _).alloc (Nat.le_refl _) _⟩
  case round =>
    obtain ⟨rfl, hb⟩ := hrel
    go_wp2
    go_ret
    exact ⟨rfl, hb⟩

set_option maxRecDepth 100000 in
set_option maxHeartbeats 1000000 in
theorem checkForm_any (t : ByteArray) (n : Int) (a : Option Addr) (len cap : Nat) (w : World) (h : ¬ t.toList = [] ∨ ¬ n = 0) :
    Calls Tryd.prog 13 #[.agg #[.int .i64 6, .string t, .int .i64 n, .slice a len cap]] w fun e w' => e = .returned (.int .i64 1) ∧ Below w.heap.size w w' := by
  by_cases h1 : t.toList = []
  · have h2 : ¬ n = 0 := by rcases h with h | h; exact absurd h1 h; exact h
    clear h
    go_enter Tryd.func13, Tryd.ntmps13
    go_wp2
    go_ret
    exact ⟨rfl, (Below.refl _ _).alloc (Nat.le_refl _) _⟩
  · clear h
    go_enter Tryd.func13, Tryd.ntmps13
    go_wp2
    go_ret
    exact ⟨rfl, (Below.refl _ _).alloc (Nat.le_refl _) _⟩

set_option maxRecDepth 100000 in
set_option maxHeartbeats 1000000 in
theorem checkMany_any (t : ByteArray) (a : Option Addr) (len cap : Nat) (w : World) (ht : t.toList = []) (hl : (300 : Int) < len) :
    Calls Tryd.prog 13 #[.agg #[.int .i64 6, .string t, .int .i64 0, .slice a len cap]] w fun e w' => e = .returned (.int .i64 2) ∧ Below w.heap.size w w' := by
  go_enter Tryd.func13, Tryd.ntmps13
  go_wp2
  go_ret
  exact ⟨rfl, (Below.refl _ _).alloc (Nat.le_refl _) _⟩

set_option maxRecDepth 100000 in
set_option maxHeartbeats 1000000 in
theorem checkOther_any (k : Int) (t : ByteArray) (n : Int) (a : Option Addr) (len cap : Nat) (w : World) (hk : ¬ k = 6) (ht : t.size ≤ maxLen) :
    Calls Tryd.prog 13 #[.agg #[.int .i64 k, .string t, .int .i64 n, .slice a len cap]] w fun e w' => e = .returned (.int .i64 (pCheck1 k t n len)) ∧ Below w.heap.size w w' := by
  have HT := hide ht
  clear ht
  go_enter Tryd.func13, Tryd.ntmps13
  go_wp2_with (go_at_call 30; refine (checkSingle_any _ _ _ _ _ _ _ (unhide HT)).mono ?_; rintro e w1 ⟨rfl, hb1⟩)
  go_ret
  exact ⟨rfl, ((Below.refl _ w).alloc (Nat.le_refl _) _).trans (hb1.mono (by simp))⟩

/-- where the list of a reply lies: nowhere, if it has none, or from an offset of a block on -/
def ListAt (w : World) (a : Option Addr) (rs : List Rep) : Prop := rs = [] ∨ ∃ b off, a = some ⟨b, off, none⟩ ∧ Reps w b off rs

/-- Check, whatever it is handed. -/
theorem check_any (k : Int) (t : ByteArray) (n : Int) (a : Option Addr) (cap : Nat) (rs : List Rep) (w : World) (ht : t.size ≤ maxLen) (hl : ListAt w a rs) :
    Calls Tryd.prog 13 #[.agg #[.int .i64 k, .string t, .int .i64 n, .slice a rs.length cap]] w fun e w' => e = .returned (.int .i64 (pCheck k t n rs)) ∧ Below w.heap.size w w' := by
  by_cases hk : k = 6
  · subst hk
    by_cases hf : ¬ t.toList = [] ∨ ¬ n = 0
    · have hp : pCheck 6 t n rs = 1 := by rw [pCheck, if_pos rfl, if_pos hf]
      rw [hp]
      exact checkForm_any t n a _ cap w hf
    · have h1 : t.toList = [] := Decidable.byContradiction fun h => hf (.inl h)
      have h2 : n = 0 := Decidable.byContradiction fun h => hf (.inr h)
      subst h2
      by_cases hm : 300 < rs.length
      · have hp : pCheck 6 t 0 rs = 2 := by rw [pCheck, if_pos rfl, if_neg hf, if_pos hm]
        rw [hp]
        exact checkMany_any t a _ cap w h1 (by omega)
      · have hp : pCheck 6 t 0 rs = pFirst rs := by rw [pCheck, if_pos rfl, if_neg hf, if_neg hm]
        rw [hp]
        rcases hl with rfl | ⟨b, off, rfl, hr⟩
        · exact checkNil_any a cap w t h1
        · exact checkList_any b off cap rs w hr (by omega) t h1
  · have hp : pCheck k t n rs = pCheck1 k t n rs.length := by rw [pCheck, if_neg hk]
    rw [hp]
    exact checkOther_any k t n a _ cap w hk ht
end Go.Proofs.YtolpmaapdkhigaaDoor
