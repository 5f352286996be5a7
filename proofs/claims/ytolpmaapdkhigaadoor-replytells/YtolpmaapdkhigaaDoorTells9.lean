/- WALK of the reference's reading of lines. -/
import Derived.Test.YtolpmaapdkhigaaDoorDec1
import Derived.Handy
namespace Go.Proofs.YtolpmaapdkhigaaDoor
open Go.RowKit

def lineRet (s : ByteArray) (l : List UInt8) : Ending :=
  match pLine l with
  | .error _ => .returned (.tuple #[.string ⟨#[]⟩, .int .i64 ((s.size - l.length : Nat) : Int), .bool false])
  | .ok (x, q) => .returned (.tuple #[.string ⟨x.toArray⟩, .int .i64 ((s.size - q.length : Nat) : Int), .bool true])
theorem suffix_get {s : ByteArray} {l : List UInt8} (h : l <:+ s.data.toList) (k : Nat) (hk : k < l.length) (hs : s.size - l.length + k < s.size) : s[s.size - l.length + k] = l[k] := by
  have h1 := drop_of_suffix h
  rw [size_list] at h1
  have h2 : (s.data.toList.drop (s.size - l.length))[k]? = some l[k] := by rw [h1, List.getElem?_eq_getElem hk]
  rw [List.getElem?_drop, List.getElem?_eq_getElem (by rw [size_list]; exact hs)] at h2
  exact Option.some.inj h2
theorem slice_part {s : ByteArray} {l : List UInt8} (h : l <:+ s.data.toList) (k : Nat) (hk : k ≤ l.length) (W : World) :
    (Instr.slice 9 (.string s) (some (.int .i64 ((s.size - l.length : Nat) : Int))) (some (.int .i64 (((s.size - l.length : Nat) : Int) + (k : Int)))) none).run Tryd.prog W = .ok (.string ⟨(l.take k).toArray⟩) W := by
  have hl : l.length ≤ s.size := by rw [← size_list]; exact h.length_le
  rw [run_slice_string (P := Tryd.prog) W 9 s .i64 .i64 _ _ Tryd.underlying9 (by omega) (by omega) (by omega)]
  rw [show (((s.size - l.length : Nat) : Int) + (k : Int)).toNat = s.size - l.length + k by omega, Int.toNat_natCast, extract_suffix h k]

set_option maxRecDepth 100000 in
set_option maxHeartbeats 4000000 in
theorem lineAt_any (s : ByteArray) (l : List UInt8) (w : World) (h : l <:+ s.data.toList) (hs : s.size ≤ 281474976710656) :
    Calls Tryd.prog 46 #[.string s, .int .i64 ((s.size - l.length : Nat) : Int)] w fun e w' => e = lineRet s l ∧ w' = w := by
  have hl : l.length ≤ s.size := by rw [← size_list]; exact h.length_le
  have hsl := slice_part (s := s) h
  have hget := suffix_get (s := s) h
  clear h
  generalize hp : s.size - l.length = p at *
  have hpl : p + l.length = s.size := by omega
  go_enter Tryd.func46, Tryd.ntmps46
  go_wp2_with fail
  go_loop [7] (fun i => ∃ k : Nat, k ≤ l.length ∧ i = .int .i64 ((p + k : Nat) : Int) ∧ Hid (pLine l = ahead (l.take k) (pLine (l.drop k)))) (fun i => s.size - (intOf i).toNat)
  case atStart => exact ⟨0, Nat.zero_le _, rfl, by rw [List.take_zero, List.drop_zero, ahead_nil]; rfl⟩
  case round =>
    obtain ⟨k, hk, rfl, HP⟩ := hrel
    by_cases hlt : k + 1 < l.length
    · have i0 : p + k < s.size := by omega
      have i1 : p + k + 1 < s.size := by omega
      have g0 : s[p + k] = l[k] := hget k (by omega) i0
      have g1 : s[p + k + 1] = l[k + 1] := hget (k + 1) (by omega) i1
      have hd : l.drop k = l[k] :: l[k + 1] :: l.drop (k + 2) := by rw [List.drop_eq_getElem_cons (by omega), List.drop_eq_getElem_cons (by omega)]
      by_cases hx : l[k].toNat = 13 ∧ l[k + 1].toNat = 10
      · have HV : Hid (lineRet s l = .returned (.tuple #[.string ⟨(l.take k).toArray⟩, .int .i64 ((p + k : Nat) + 2 : Int), .bool true])) := by
          have e0 : l[k] = 13 := UInt8.toNat_inj.mp (by simpa using hx.1)
          have e1 : l[k + 1] = 10 := UInt8.toNat_inj.mp (by simpa using hx.2)
          have h1 : pLine l = .ok (l.take k, l.drop (k + 2)) := by
            rw [HP.out, hd, e0, e1, pLine_hit rfl]
            simp [ahead]
          rw [Hid, lineRet, h1]
          have : s.size - (l.drop (k + 2)).length = p + k + 2 := by rw [List.length_drop]; omega
          simp only [this]
          rfl
        have hx0 : s[p + k].toNat = 13 := by rw [g0]; exact hx.1
        have hx1 : s[p + k + 1].toNat = 10 := by rw [g1]; exact hx.2
        have hslk := hsl k hk
        clear hx hd HP g0 g1 hget hsl
        go_wp2_with fail
        go_ret3
        rw [HV.out]
        exact ⟨rfl, rfl⟩
      · have hm : hasLE (l.drop k) = false := by
          rw [hd]
          unfold hasLE
          split
          · rename_i heq
            simp only [List.cons.injEq] at heq
            exact absurd ⟨by rw [heq.1]; rfl, by rw [heq.2.1]; rfl⟩ hx
          · rfl
        have HP2 : Hid (pLine l = ahead (l.take (k + 1)) (pLine (l.drop (k + 1)))) := by
          have h5 : l.drop k = l[k] :: l.drop (k + 1) := List.drop_eq_getElem_cons (by omega)
          rw [h5] at hm
          rw [Hid, HP.out, h5, pLine_miss _ hm, List.take_succ_eq_append_getElem (by omega)]
        rw [← g0, ← g1] at hx
        clear hd HP g0 g1 hget hsl hm
        by_cases hx0 : s[p + k].toNat = 13
        · have hx1 : ¬ s[p + k + 1].toNat = 10 := fun e => hx ⟨hx0, e⟩
          clear hx
          go_wp2_with fail
          go_round
          case rel => exact ⟨k + 1, by omega, by go_num, HP2⟩
          case measure => simp [intOf]; omega
        · clear hx
          go_wp2_with fail
          go_round
          case rel => exact ⟨k + 1, by omega, by go_num, HP2⟩
          case measure => simp [intOf]; omega
    · have HV : Hid (lineRet s l = .returned (.tuple #[.string ⟨#[]⟩, .int .i64 (p : Int), .bool false])) := by
        have h1 : ∃ n, pLine l = .error n := by
          rw [HP.out]
          match hd : l.drop k with
          | [] => exact ⟨8, rfl⟩
          | [c] =>
            refine ⟨8, ?_⟩
            simp [pLine, hasLE, ahead]
          | a :: b :: r =>
            have := congrArg List.length hd
            rw [List.length_drop] at this
            simp at this
            omega
        obtain ⟨n, hn⟩ := h1
        rw [Hid, lineRet, hn, hp]
      clear HP hget hsl
      go_wp2_with fail
      go_ret3
      rw [HV.out]
      exact ⟨rfl, rfl⟩
end Go.Proofs.YtolpmaapdkhigaaDoor
