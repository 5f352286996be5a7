/- WALKS of Take, of a text and a number out of bytes. -/
import Derived.Test.YtolpmaapdkhigabGScan
import Derived.Test.YtolpmaapdkhigabShelfC
import Derived.Test.YtolpmaapdkhigabIEncP
import Derived.Deep.RegionWith
import Derived.Handy
namespace Go.Proofs.Ytolpmaapdkhigab
open Go.RowKit

set_option maxHeartbeats 400000 in
theorem clone_any (s : ByteArray) (w : World) (hs : s.size ≤ 281474976710656) :
    Calls Try.prog 81 #[.string s] w fun e w' => e = .returned (.string s) ∧ Below w.heap.size w w' := by
  go_enter Try.func81, Try.ntmps81
  go_wp2_with (go_at_call 93; refine (Try.stringslite_Clone s _ hs).mono ?_; rintro e w' ⟨rfl, hb⟩)
  go_ret
  exact ⟨rfl, hb⟩

set_option maxHeartbeats 400000 in
theorem take_err (b : Nat) (s : ByteArray) (l : List UInt8) (n : Nat) (w : World) (h : AtL b s l w) (hn : l.length < n) (hm : n ≤ 1000000000) :
    Calls Try.prog 52 #[.pointer (some ⟨b, 0, none⟩), .int .i64 n] w fun e w' => e = .panicked [{ v := .iface 92 (.agg #[.int .i64 (8)]), recovered := false }] ∧ Kept (one b) w w' := by
  have hl := h.len
  obtain ⟨h0, h1, h2, h3, h4⟩ := h.1
  unfold maxLen at h4
  have e1 : s.size ≤ (s.size - l.length) + l.length := by omega
  have e2 : (s.size - l.length) + l.length ≤ s.size := by omega
  generalize s.size - l.length = k at *
  go_enter Try.func52, Try.ntmps52
  go_wp2
  go_quiet (fail)
  go_wp2_with (go_at_call 61; refine (giveUp_any _ _).mono ?_; rintro e w' ⟨rfl, rfl⟩)
  exact ⟨rfl, rfl, (Kept.refl _ _).drewN nq⟩

set_option maxRecDepth 100000 in
set_option maxHeartbeats 400000 in
theorem take_ok (b : Nat) (s : ByteArray) (l : List UInt8) (n : Nat) (w : World) (h : AtL b s l w) (hn : n ≤ l.length) (hs : s.size ≤ 281474976710656) :
    Calls Try.prog 52 #[.pointer (some ⟨b, 0, none⟩), .int .i64 n] w fun e w' => e = .returned (.string ⟨(l.take n).toArray⟩) ∧ AtL b s (l.drop n) w' ∧ Kept (one b) w w' := by
  have hl := h.len
  obtain ⟨h0, h1, h2, h3, h4⟩ := h.1
  unfold maxLen at h4
  have hsl : ∀ W, (Instr.slice 9 (.string s) (some (.int .i64 (s.size - l.length : Nat))) (some (.int .i64 ((s.size - l.length : Nat) + n))) none).run Try.prog W = .ok (.string ⟨(l.take n).toArray⟩) W := by
    intro W
    rw [run_slice_string (P := Try.prog) W 9 s .i64 .i64 _ _ Try.underlying9 (by omega) (by omega) (by omega)]
    have e3 : (((s.size - l.length : Nat) : Int) + n).toNat = s.size - l.length + n := by omega
    rw [e3, Int.toNat_natCast, extract_suffix h.2]
  have hset : At b s (s.size - (l.drop n).length) (w.setCell ⟨b, 1, none⟩ (.int .i64 ((s.size - l.length : Nat) + n))) := by
    have e3 : s.size - (l.drop n).length = s.size - l.length + n := by rw [List.length_drop]; omega
    rw [e3]
    have := h.1.set (j := s.size - l.length + n) (by omega)
    simpa using this
  have hsz : (ByteArray.mk (l.take n).toArray).size ≤ 281474976710656 := by rw [size_mk, List.length_take]; omega
  have hsuf : l.drop n <:+ s.data.toList := (List.drop_suffix n l).trans h.2
  have HSET := hide hset
  have HZ := hide hsz
  have e1 : s.size ≤ (s.size - l.length) + l.length := by omega
  have e2 : (s.size - l.length) + l.length ≤ s.size := by omega
  clear hset hsz
  generalize s.size - l.length = k at *
  generalize ByteArray.mk (l.take n).toArray = x at *
  go_enter Try.func52, Try.ntmps52
  go_wp2
  go_quiet (fail)
  go_wp2
  go_region_with (go_at_call 81; refine (clone_any _ _ (unhide HZ)).mono ?_; rintro e w' ⟨rfl, hb⟩)
  all_goals
    go_wp2
    go_ret
    have hk0 := Kept.of_below hb (fun _ => False)
    have hk1 : Kept (fun _ => False) (w.setCell ⟨b, 1, none⟩ (.int .i64 ((k : Int) + n))) w' := by
      refine Kept.trans ?_ hk0
      exact ⟨rfl, rfl, rfl, Nat.le_refl _, fun _ _ _ => rfl⟩
    refine ⟨rfl, ⟨(unhide HSET).kept hk1 (fun x => x), hsuf⟩, ?_⟩
    exact ((Kept.refl _ _).set1 _ _).trans (hk1.mono (fun _ _ x => x.elim))

set_option maxRecDepth 100000 in
set_option maxHeartbeats 1000000 in
theorem leftd_any (b : Nat) (s : ByteArray) (l : List UInt8) (w : World) (h : AtL b s l w) :
    Calls Try.prog 53 #[.pointer (some ⟨b, 0, none⟩)] w fun e w' => e = .returned (.string ⟨l.toArray⟩) ∧ ∃ n, w' = w.drewN n := by
  have hl := h.len
  obtain ⟨h0, h1, h2, h3, h4⟩ := h.1
  have hsl : ∀ W : World, (Instr.slice 9 (.string s) (some (.int .i64 ((s.size - l.length : Nat) : Int))) none none).run Try.prog W = .ok (.string ⟨l.toArray⟩) W := fun W => by
    rw [run_slice_string_from_if (P := Try.prog) W 9 s .i64 _ Try.underlying9, if_pos (by omega), Int.toNat_natCast, extract_suffix_all h.2]
  clear h
  generalize s.size - l.length = p at *
  generalize (⟨l.toArray⟩ : ByteArray) = L at *
  go_enter Try.func53, Try.ntmps53
  go_wp2_with fail
  go_quiet (fail)
  go_wp2_with fail
  go_ret
  exact ⟨rfl, _, rfl⟩
theorem byte_lt (c : UInt8) : c.toNat ≤ 255 := by have := c.toNat_lt; omega
/-- a text out of bytes: how many, and they -/
def pText : List UInt8 → Option (ByteArray × List UInt8)
  | [] => none
  | c :: r => if r.length < c.toNat then none else some (⟨(r.take c.toNat).toArray⟩, r.drop c.toNat)
theorem text_ok (b : Nat) (s : ByteArray) (l : List UInt8) (t : ByteArray) (r : List UInt8) (w : World) (h : AtL b s l w) (hs : s.size ≤ 281474976710656) (hp : pText l = some (t, r)) :
    Calls Try.prog 55 #[.pointer (some ⟨b, 0, none⟩)] w fun e w' => e = .returned (.string t) ∧ AtL b s r w' ∧ Kept (one b) w w' := by
  cases l with
  | nil => cases hp
  | cons c q =>
    simp only [pText] at hp
    split at hp
    · cases hp
    rename_i hn
    injection hp with hp
    injection hp with e1 e2
    have HN := hide (next_ok b s c q w h)
    have HT : Hid (∀ W, AtL b s q W → Calls Try.prog 52 #[.pointer (some ⟨b, 0, none⟩), .int .i64 c.toNat] W fun e w' => e = .returned (.string t) ∧ AtL b s r w' ∧ Kept (one b) W w') := fun W hW => by
      have := take_ok b s q c.toNat W hW (by omega) hs
      rw [e1, e2] at this
      exact this
    have hc := byte_lt c
    have hc' : ((c.toNat : Nat) : Int) ≤ 255 := by omega
    clear h e1 e2 hn
    go_enter Try.func55, Try.ntmps55
    go_wp2_with fail
    refine HN.out.mono ?_
    rintro e w1 ⟨rfl, h1, hk1⟩
    have H1 := hide h1
    clear h1
    go_wp2_with fail
    refine (HT.out _ H1.out).mono ?_
    rintro e w2 ⟨rfl, h2, hk2⟩
    have H2 := hide h2
    clear h2
    go_wp2_with fail
    go_ret
    exact ⟨rfl, H2.out, hk1.trans hk2⟩
theorem text_err (b : Nat) (s : ByteArray) (l : List UInt8) (w : World) (h : AtL b s l w) (hp : pText l = none) :
    Calls Try.prog 55 #[.pointer (some ⟨b, 0, none⟩)] w fun e w' => e = .panicked [{ v := .iface 92 (.agg #[.int .i64 (8)]), recovered := false }] ∧ Kept (one b) w w' := by
  cases l with
  | nil =>
    have HN := hide (next_short b s w h)
    clear h
    go_enter Try.func55, Try.ntmps55
    go_wp2_with fail
    refine HN.out.mono ?_
    rintro e w1 ⟨rfl, hk1⟩
    exact ⟨rfl, rfl, hk1⟩
  | cons c q =>
    simp only [pText] at hp
    split at hp
    · rename_i hn
      have HN := hide (next_ok b s c q w h)
      have hc := byte_lt c
      have hc' : ((c.toNat : Nat) : Int) ≤ 255 := by omega
      have HT : Hid (∀ W, AtL b s q W → Calls Try.prog 52 #[.pointer (some ⟨b, 0, none⟩), .int .i64 c.toNat] W fun e w' => e = .panicked [{ v := .iface 92 (.agg #[.int .i64 (8)]), recovered := false }] ∧ Kept (one b) W w') := fun W hW => take_err b s q c.toNat W hW hn (by omega)
      clear h hn hp
      go_enter Try.func55, Try.ntmps55
      go_wp2_with fail
      refine HN.out.mono ?_
      rintro e w1 ⟨rfl, h1, hk1⟩
      have H1 := hide h1
      clear h1
      go_wp2_with fail
      refine (HT.out _ H1.out).mono ?_
      rintro e w2 ⟨rfl, hk2⟩
      exact ⟨rfl, rfl, hk1.trans hk2⟩
    · cases hp
end Go.Proofs.Ytolpmaapdkhigab
