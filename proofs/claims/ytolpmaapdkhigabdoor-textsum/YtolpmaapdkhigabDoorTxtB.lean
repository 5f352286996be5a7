/- WALKS of what must be in any case, and of TextBehind. -/
import Derived.Test.YtolpmaapdkhigabDoorTxt2
import Derived.Handy
namespace Go.Proofs.YtolpmaapdkhigabDoor
open Go.RowKit

theorem ext_bytes {a b : ByteArray} (h : a.data.toList = b.data.toList) : a = b := by
  cases a; cases b
  congr 1
  exact Array.toList_inj.1 h
theorem none_isNone : Itm.none.isNone = true := by simp [Itm.isNone, Itm.none, ByteArray.toList_eq]
theorem none_as (k : Int) : asI Itm.none k = 0 := by rw [asI, if_pos none_isNone]
theorem beg1 : appV Itm.none ⟨#[52, 49]⟩ = .tuple #[tval ⟨#[52, 49]⟩, .int .i64 2, .int .i64 0] := by
  have he : appE Itm.none ⟨#[52, 49]⟩ = 0 := by
    rw [appE, if_neg (by simp [none_as]), if_neg (by decide)]
  rw [appV, if_pos he]
  have e : Itm.none.t ++ (⟨#[52, 49]⟩ : ByteArray) = ⟨#[52, 49]⟩ := ext_bytes (by rw [list_append]; rfl)
  rw [e]
  rfl
theorem beg2 : addV (Itm.txt ⟨#[52, 49]⟩) 1 = .tuple #[tval ⟨#[52, 50]⟩, .int .i64 42, .int .i64 0] := by
  have ht : tellsI (Itm.txt ⟨#[52, 49]⟩) = some 41 := by decide +kernel
  have he : addE (Itm.txt ⟨#[52, 49]⟩) 1 = 0 := by
    have h0 : asI (Itm.txt ⟨#[52, 49]⟩) 1 = 0 := txt_as _ (by decide)
    simp [addE, h0, ht]
    decide
  rw [addV, if_pos he, ht]
  have e : (⟨(Lib.itoa (41 + 1)).toArray⟩ : ByteArray) = ⟨#[52, 50]⟩ := ext_bytes (by decide +kernel)
  simp only [Option.getD_some]
  rw [e]
  rfl
theorem beg3 : rngV (Itm.txt ⟨#[104, 101, 108, 108, 111]⟩) (-3) (-1) = .tuple #[.string ⟨#[108, 108, 111]⟩, .int .i64 0] := by
  have h0 : asI (Itm.txt ⟨#[104, 101, 108, 108, 111]⟩) 1 = 0 := txt_as _ (by decide)
  rw [rngV, if_pos h0]
  have e : (Itm.txt ⟨#[104, 101, 108, 108, 111]⟩).t.extract (place1 (Itm.txt ⟨#[104, 101, 108, 108, 111]⟩).t.size (-3) (-1)) (place2 (Itm.txt ⟨#[104, 101, 108, 108, 111]⟩).t.size (-3) (-1)) = ⟨#[108, 108, 111]⟩ := ext_bytes (by decide +kernel)
  rw [e]

set_option maxRecDepth 100000 in
set_option maxHeartbeats 2000000 in
theorem textBegun_any (w : World) (he : Env w) : Calls Tryd.prog 15 #[] w fun e w' => e = .returned (.bool true) ∧ Below w.heap.size w w' := by
  have H1 : Hid (∀ W, Calls Tryd.prog 6 #[zval, .string ⟨#[52, 49]⟩] W fun e w' => e = .returned (.tuple #[tval ⟨#[52, 49]⟩, .int .i64 2, .int .i64 0]) ∧ Below W.heap.size W w') := fun W => by
    have h := append_any zval Itm.none ⟨#[52, 49]⟩ W (zval_is W) (by decide)
    rw [beg1] at h
    exact h
  have H2 : Hid (∀ W, Below w.heap.size w W → Calls Tryd.prog 8 #[tval ⟨#[52, 49]⟩, .int .i64 1] W fun e w' => e = .returned (.tuple #[tval ⟨#[52, 50]⟩, .int .i64 42, .int .i64 0]) ∧ Below W.heap.size W w') := fun W hW => by
    have h := add_any (tval ⟨#[52, 49]⟩) (Itm.txt ⟨#[52, 49]⟩) 1 W (tval_is W _ (by decide)) (he.below hW) (by decide) (by decide)
    rw [beg2] at h
    exact h
  have H3 : Hid (∀ W, Calls Tryd.prog 9 #[tval ⟨#[104, 101, 108, 108, 111]⟩, .int .i64 (-3), .int .i64 (-1)] W fun e w' => e = .returned (.tuple #[.string ⟨#[108, 108, 111]⟩, .int .i64 0]) ∧ Below W.heap.size W w') := fun W => by
    have h := range_any (tval ⟨#[104, 101, 108, 108, 111]⟩) (Itm.txt ⟨#[104, 101, 108, 108, 111]⟩) (-3) (-1) W (tval_is W _ (by decide)) (by decide) (by decide) (by decide) (by decide)
    rw [beg3] at h
    exact h
  clear he
  unfold tval zval at *
  go_enter Tryd.func15, Tryd.ntmps15
  go_wp2_with fail
  refine (H1.out _).mono ?_
  rintro e w1 ⟨rfl, hb1⟩
  go_wp2_with fail
  refine (H2.out _ (hb1.alloc hb1.size _)).mono ?_
  rintro e w2 ⟨rfl, hb2⟩
  have B1 := hb1.alloc hb1.size (.cells #[.int .i64 1, .string ⟨#[52, 49]⟩, .slice none 0 0, .slice none 0 0, .slice none 0 0] 26)
  have B2 : Below w.heap.size w w2 := B1.trans (hb2.mono B1.size)
  go_wp2_with fail
  refine (H3.out _).mono ?_
  rintro e w3 ⟨rfl, hb3⟩
  obtain ⟨hc3, hf3⟩ := bcell hb3
  have hz3 : w2.heap.size < w3.heap.size := by have := hb3.size; simp at this; omega
  have B3 : Below w.heap.size w w3 := (B2.alloc B2.size _).trans (hb3.mono (by have := B2.size; simp; omega))
  go_wp2_with fail
  go_ret
  exact ⟨rfl, B3⟩

theorem fromB_neg {n : Nat} {f : Int} (h : f < 0) : fromB n f = n + f := by rw [fromB, if_pos h]
theorem fromB_pos {n : Nat} {f : Int} (h : 0 ≤ f) : fromB n f = f := by rw [fromB, if_neg (by omega)]
theorem place_all (n : Nat) : place1 n 0 (-1) = 0 ∧ place2 n 0 (-1) = n := by
  unfold place1 place2
  rw [fromB_pos (f := 0) (by omega), fromB_neg (f := -1) (by omega)]
  constructor <;> split <;> omega
theorem place_to (n c : Nat) (h : c < n) : place1 n 0 c = 0 ∧ place2 n 0 c = c + 1 := by
  unfold place1 place2
  rw [fromB_pos (f := 0) (by omega), fromB_pos (f := (c : Int)) (by omega)]
  constructor <;> split <;> omega
theorem place_back (n c : Nat) (h : c < n) : place1 n 0 ((c : Int) - n) = 0 ∧ place2 n 0 ((c : Int) - n) = c + 1 := by
  unfold place1 place2
  rw [fromB_pos (f := 0) (by omega), fromB_neg (f := (c : Int) - n) (by omega)]
  constructor <;> split <;> omega
theorem place_rest (n c : Nat) (h : c + 1 < n) : place1 n ((c : Int) + 1) (-1) = c + 1 ∧ place2 n ((c : Int) + 1) (-1) = n := by
  unfold place1 place2
  rw [fromB_pos (f := (c : Int) + 1) (by omega), fromB_neg (f := -1) (by omega)]
  constructor <;> split <;> omega
theorem place_end (n c : Nat) (h : c + 1 = n) : place1 n ((c : Int) + 1) (-1) = 0 ∧ place2 n ((c : Int) + 1) (-1) = 0 := by
  unfold place1 place2
  rw [fromB_pos (f := (c : Int) + 1) (by omega), fromB_neg (f := -1) (by omega)]
  constructor <;> split <;> omega
theorem extract_whole (t : ByteArray) : t.extract 0 t.size = t := ext_bytes (by rw [extract_list, toList_mk, List.drop_zero, Nat.sub_zero, List.take_of_length_le (by rw [size_list]; exact Nat.le_refl _)])
theorem extract_parts (t : ByteArray) (c : Nat) : t.extract 0 c ++ t.extract c t.size = t := by
  apply ext_bytes
  rw [list_append, extract_list, extract_list, toList_mk, toList_mk, List.drop_zero, Nat.sub_zero]
  rw [List.take_of_length_le (l := t.data.toList.drop c) (by rw [List.length_drop, size_list]; exact Nat.le_refl _)]
  exact List.take_append_drop _ _
theorem rng_txt (t : ByteArray) (f u : Int) (p q : Nat) (ht : t.size ≤ 60) (hp : place1 t.size f u = p ∧ place2 t.size f u = q) : rngV (Itm.txt t) f u = .tuple #[.string (t.extract p q), .int .i64 0] := by
  rw [rngV, if_pos (txt_as t ht)]
  simp only [Itm.txt]
  rw [hp.1, hp.2]
end Go.Proofs.YtolpmaapdkhigabDoor
