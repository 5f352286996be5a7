/- WALK of feedBegun. -/
import Derived.Test.YtolpmaapdkhigaaDoorSame
namespace Go.Proofs.YtolpmaapdkhigaaDoor
open Go.RowKit

def theBytes : List UInt8 := [42, 50, 13, 10, 36, 51, 13, 10, 103, 101, 116, 13, 10, 36, 51, 13, 10, 97, 13, 10, 13, 10]
theorem begun_words : pWordsR [[103, 101, 116], [97, 13, 10]] = (theBytes, 0) := by decide +kernel
theorem begun_feed : pFeedR (theBytes.take 9 ++ (theBytes.drop 9 ++ theBytes ++ [42])) = ([[[103, 101, 116], [97, 13, 10]], [[103, 101, 116], [97, 13, 10]]], [42], 0) := by decide +kernel

def theString : ByteArray := ⟨#[42, 50, 13, 10, 36, 51, 13, 10, 103, 101, 116, 13, 10, 36, 51, 13, 10, 97, 13, 10, 13, 10]⟩
theorem theString_size : theString.size = 22 := rfl

theorem words_begun (w : World) :
    Calls Tryd.prog 18 #[.slice (some ⟨w.heap.size, 0, none⟩) 2 2] (w.alloc (.cells #[.string ⟨#[103, 101, 116]⟩, .string ⟨#[97, 13, 10]⟩] 9)) fun e w' => e = .returned (.tuple #[.string theString, .int .i64 0]) ∧ Below w.heap.size w w' := by
  have h := words_any (some ⟨w.heap.size, 0, none⟩) 2 [⟨#[103, 101, 116]⟩, ⟨#[97, 13, 10]⟩] (w.alloc (.cells #[.string ⟨#[103, 101, 116]⟩, .string ⟨#[97, 13, 10]⟩] 9))
    (.inr ⟨w.heap.size, 0, rfl, ⟨fun i hi => by
      match i, hi with
      | 0, _ => simp [go_sem]
      | 1, _ => simp [go_sem]⟩⟩) (by
      intro s hs
      simp at hs
      rcases hs with rfl | rfl <;> simp [ByteArray.size, maxLen])
  have e : pWordsR ([⟨#[103, 101, 116]⟩, ⟨#[97, 13, 10]⟩].map lst) = (theBytes, 0) := begun_words
  rw [e] at h
  refine h.mono ?_
  rintro e w' ⟨rfl, hb⟩
  exact ⟨rfl, ((Below.refl _ w).alloc (Nat.le_refl _) _).trans (hb.mono (by simp))⟩

def frontString : ByteArray := ⟨#[42, 50, 13, 10, 36, 51, 13, 10, 103]⟩
def backString : ByteArray := ⟨#[101, 116, 13, 10, 36, 51, 13, 10, 97, 13, 10, 13, 10]⟩
theorem cut_front : theString.extract 0 9 = frontString := by decide +kernel
theorem cut_back : theString.extract 9 22 = backString := by decide +kernel

theorem feed_begun (w : World) :
    Calls Tryd.prog 15 #[.string frontString, .string (backString ++ theString ++ ⟨#[42]⟩)] w fun e w' => ∃ V, e = .returned (.tuple #[V, .string ⟨#[42]⟩, .int .i64 0]) ∧
      Cmds w.heap.size w' V [[[103, 101, 116], [97, 13, 10]], [[103, 101, 116], [97, 13, 10]]] ∧ Below w.heap.size w w' := by
  have h := feed_any frontString (backString ++ theString ++ ⟨#[42]⟩) w (by decide +kernel)
  have e : frontString.data.toList ++ (backString ++ theString ++ ⟨#[42]⟩).data.toList = theBytes.take 9 ++ (theBytes.drop 9 ++ theBytes ++ [42]) := by decide +kernel
  rw [e, begun_feed] at h
  exact h

set_option maxRecDepth 100000 in
set_option maxHeartbeats 2000000 in
theorem feedBegun_any (w : World) :
    Calls Tryd.prog 16 #[] w fun e w' => e = .returned (.bool true) ∧ Below w.heap.size w w' := by
  have hsz := theString_size
  have hs1 : ∀ W, (Instr.slice 9 (.string theString) none (some (.int .i64 9)) none).run Tryd.prog W = .ok (.string frontString) W := fun W => by
    rw [run_slice_string_to_if (P := Tryd.prog) W 9 theString .i64 9 Tryd.underlying9, if_pos (by rw [hsz]; decide), ← cut_front]
    rfl
  have hs2 : ∀ W, (Instr.slice 9 (.string theString) (some (.int .i64 9)) none none).run Tryd.prog W = .ok (.string backString) W := fun W => by
    rw [run_slice_string_from_if (P := Tryd.prog) W 9 theString .i64 9 Tryd.underlying9, if_pos (by rw [hsz]; decide), ← cut_back]
    rfl
  have hb1 : backString.size = 13 := rfl
  go_enter Tryd.func16, Tryd.ntmps16
  go_wp2_with (go_at_call 18; refine (words_begun _).mono ?_; rintro e w1 ⟨rfl, hb1⟩)
  go_region_with (go_at_call 15; refine (feed_begun _).mono ?_; rintro e w2 ⟨V, rfl, hC, hb2⟩)
  have hw12 : w.heap.size ≤ w1.heap.size := hb1.size
  have hbw2 : Below w.heap.size w w2 := hb1.trans (Below.mono ⟨hb2.os, hb2.tape, hb2.output, hb2.size, hb2.block⟩ hw12)
  obtain ⟨a, cap, rfl, hV⟩ := hC.at_
  rcases hV with hV | ⟨g, off, rfl, hV⟩
  · cases hV
  obtain ⟨u, hu1, hu2⟩ := hV 1 (by decide)
  have hcall : ∀ o, Calls Tryd.prog 36 #[u, .slice (some ⟨w2.heap.size, 0, none⟩) 2 2] (w2.alloc (.cells #[.string ⟨#[103, 101, 116]⟩, .string ⟨#[97, 13, 10]⟩] o)) fun e w' => e = .returned (.bool true) ∧ ∃ m, w' = (w2.alloc (.cells #[.string ⟨#[103, 101, 116]⟩, .string ⟨#[97, 13, 10]⟩] o)).drewN m := fun o => by
    have h := sameTexts_any u (.slice (some ⟨w2.heap.size, 0, none⟩) 2 2) [[103, 101, 116], [97, 13, 10]] [[103, 101, 116], [97, 13, 10]] (w2.alloc (.cells #[.string ⟨#[103, 101, 116]⟩, .string ⟨#[97, 13, 10]⟩] o))
      (hu2.kept ((Below.refl _ w2).alloc (Nat.le_refl _) _)) ⟨_, _, rfl, .inr ⟨w2.heap.size, 0, rfl, fun i hi => by
        match i, hi with
        | 0, _ => simp [go_sem]
        | 1, _ => simp [go_sem]⟩⟩ (by decide)
    simpa using h
  have HC := hide hcall
  obtain ⟨ua, uc, rfl, -⟩ := hu2
  clear hcall hV hC hs1 hs2 hb2
  have htl : theString.toList = [42, 50, 13, 10, 36, 51, 13, 10, 103, 101, 116, 13, 10, 36, 51, 13, 10, 97, 13, 10, 13, 10] := by decide +kernel
  have hu1' : w2.cell? ⟨g, off + 1, none⟩ = some (.slice ua 2 uc) := hu1
  have HC2 : Hid (∀ o, Calls Tryd.prog 36 #[.slice ua 2 uc, .slice (some ⟨w2.heap.size, 0, none⟩) 2 2] (w2.alloc (.cells #[.string ⟨#[103, 101, 116]⟩, .string ⟨#[97, 13, 10]⟩] o)) fun e w' => e = .returned (.bool true) ∧ ∃ m, w' = (w2.alloc (.cells #[.string ⟨#[103, 101, 116]⟩, .string ⟨#[97, 13, 10]⟩] o)).drewN m) := HC
  clear hu1 HC
  go_wp2_with (go_at_call 36; refine (HC2.out _).mono ?_; rintro e w3 ⟨rfl, m3, rfl⟩)
  go_ret
  refine ⟨rfl, hbw2.trans (Below.trans ((Below.refl _ w2).alloc (by have := hbw2.size; omega) (.cells #[.string ⟨#[103, 101, 116]⟩, .string ⟨#[97, 13, 10]⟩] 9)) ⟨rfl, rfl, rfl, Nat.le_refl _, fun _ _ => rfl⟩)⟩
end Go.Proofs.YtolpmaapdkhigaaDoor
