/- WALKS of what must be of items in any case. -/
import Derived.Test.YtolpmaapdkhigabIBackQ
import Derived.Test.YtolpmaapdkhigabIEnc3
import Derived.Test.YtolpmaapdkhigabIDec10
import Derived.Test.YtolpmaapdkhigabISame2
import Derived.Deep.RegionHeld3
import Derived.Handy
namespace Go.Proofs.Ytolpmaapdkhigab
open Go.RowKit

def tallyI : Itm := ⟨5, ⟨#[]⟩, [], [], [(-1, ⟨#[98]⟩), (2, ⟨#[97]⟩), (2, ⟨#[99]⟩)]⟩
theorem tally_chk : chkI tallyI = 0 := by decide +kernel
theorem tally_enc : encI tallyI = [5, 3, 59, 154, 201, 254, 1, 98, 59, 154, 202, 1, 1, 97, 59, 154, 202, 1, 1, 99] := by decide +kernel
theorem tally_dec : decE (encI tallyI) = 0 ∧ decI (encI tallyI) = tallyI := by
  unfold decE decI
  rw [item_there tally_chk]
  simp [tally_chk]
theorem tally_is {w W : World} (hw : ∀ o u, (w.alloc (.cells #[.int .i64 (-1), .string ⟨#[98]⟩, .int .i64 2, .string ⟨#[97]⟩, .int .i64 2, .string ⟨#[99]⟩] 61)).cell? ⟨w.heap.size, o, none⟩ = some u → W.cell? ⟨w.heap.size, o, none⟩ = some u) :
    ItemIs W (.agg #[.int .i64 5, .string ⟨#[]⟩, .slice none 0 0, .slice none 0 0, .slice (some ⟨w.heap.size, 0, none⟩) 3 3]) tallyI := by
  refine ⟨⟨none, 0, none, 0, some ⟨w.heap.size, 0, none⟩, 3, rfl, .inl rfl, .inl rfl, .inr ⟨w.heap.size, 0, rfl, fun i hi => ?_⟩⟩, (show (0 : Nat) ≤ maxLen by simp), by simp [tallyI], by simp [tallyI], ?_, by simp [tallyI], by simp [tallyI], by simp [tallyI]⟩
  · match i, hi with
    | 0, _ => exact ⟨hw _ _ (by simp [go_sem, tallyI]), hw _ _ (by simp [go_sem, tallyI])⟩
    | 1, _ => exact ⟨hw _ _ (by simp [go_sem, tallyI]), hw _ _ (by simp [go_sem, tallyI])⟩
    | 2, _ => exact ⟨hw _ _ (by simp [go_sem, tallyI]), hw _ _ (by simp [go_sem, tallyI])⟩
  · intro t ht
    simp [tallyI] at ht
    rcases ht with rfl | rfl | rfl <;> (show (1 : Nat) ≤ maxLen; unfold maxLen; omega)
set_option maxRecDepth 100000 in
theorem tally_any (w : World) : Calls Try.prog 36 #[] w fun e w' => ∃ g, e = .returned (.agg #[.int .i64 5, .string ⟨#[]⟩, .slice none 0 0, .slice none 0 0, .slice (some ⟨g, 0, none⟩) 3 3]) ∧ ItemIs w' (.agg #[.int .i64 5, .string ⟨#[]⟩, .slice none 0 0, .slice none 0 0, .slice (some ⟨g, 0, none⟩) 3 3]) tallyI ∧ Below w.heap.size w w' := by
  go_enter Try.func36, Try.ntmps36
  go_wp2_with fail
  refine bodyPost_ret (v := .agg #[.int .i64 5, .string ⟨#[]⟩, .slice none 0 0, .slice none 0 0, .slice (some ⟨w.heap.size + 1, 0, none⟩) 3 3]) (by simp [results, Try.results36, go_sem]) rfl ⟨_, rfl, ?_, ?_⟩
  · have h := tally_is (w := w.alloc (.cells #[.int .i64 5, .string ⟨#[]⟩, .slice none 0 0, .slice none 0 0, .slice (some ⟨w.heap.size + 1, 0, none⟩) 3 3] 31)) (W := _) (fun _ _ h => h)
    rw [World.size_alloc] at h
    exact h
  · go_grown
set_option maxRecDepth 100000 in
set_option maxHeartbeats 4000000 in
theorem itemBegun_any (w : World) : Calls Try.prog 13 #[] w fun e w' => e = .returned (.bool true) ∧ Below w.heap.size w w' := by
  have HT := hide tally_any
  have HE : Hid (∀ v W, ItemIs W v tallyI → Calls Try.prog 8 #[v] W fun e w' => e = .returned (.tuple #[.string ⟨#[5, 3, 59, 154, 201, 254, 1, 98, 59, 154, 202, 1, 1, 97, 59, 154, 202, 1, 1, 99]⟩, .int .i64 0]) ∧ Below W.heap.size W w') := fun v W h => by
    have hh := encode_any v tallyI W h
    rw [encV, if_pos tally_chk, tally_enc, tally_chk] at hh
    exact hh
  have HD : Hid (∀ W, Calls Try.prog 9 #[.string ⟨#[5, 3, 59, 154, 201, 254, 1, 98, 59, 154, 202, 1, 1, 97, 59, 154, 202, 1, 1, 99]⟩] W fun e w' => ∃ u, (e = .returned (.tuple #[u, .int .i64 0]) ∧ ItemIs w' u tallyI) ∧ Below W.heap.size W w') := fun W => by
    have hh := decode_any ⟨#[5, 3, 59, 154, 201, 254, 1, 98, 59, 154, 202, 1, 1, 97, 59, 154, 202, 1, 1, 99]⟩ W (by decide)
    have e1 : (ByteArray.data ⟨#[5, 3, 59, 154, 201, 254, 1, 98, 59, 154, 202, 1, 1, 97, 59, 154, 202, 1, 1, 99]⟩).toList = encI tallyI := tally_enc.symm
    rw [e1, tally_dec.1, tally_dec.2] at hh
    exact hh.mono fun e w' ⟨u, h1, h2, h3⟩ => ⟨u, ⟨h1, h2 w' (fun _ _ _ _ h => h)⟩, h3⟩
  have HC : Hid (∀ v W, ItemIs W v tallyI → Calls Try.prog 14 #[v] W fun e w' => e = .returned (.int .i64 0) ∧ Below W.heap.size W w') := fun v W h => by
    have hh := check_any v tallyI W h
    rw [tally_chk] at hh
    exact hh
  have HS : Hid (∀ v u W, ItemIs W v tallyI → ItemIs W u tallyI → Calls Try.prog 15 #[v, u] W fun e w' => e = .returned (.bool true) ∧ Below W.heap.size W w') := fun v u W h1 h2 => by
    have hh := sameItem_any v u _ _ W h1 h2
    rw [show sameI tallyI tallyI = true by simp [sameI]] at hh
    exact hh
  go_enter Try.func13, Try.ntmps13
  go_wp2_with fail
  refine (HT.out _).mono ?_
  rintro e w0 ⟨g0, rfl, i0, hb0⟩
  have I0 := hide i0
  clear i0
  go_wp2_with fail
  refine (HE.out _ _ I0.out).mono ?_
  rintro e w1 ⟨rfl, hb1⟩
  have B1 : Below w.heap.size w w1 := hb0.trans (hb1.mono hb0.size)
  clear I0 hb0 hb1
  go_wp2_with fail
  refine (HD.out _).mono ?_
  rintro e w2 ⟨u, ⟨rfl, i2⟩, hb2⟩
  have B2 : Below w.heap.size w w2 := B1.trans (hb2.mono B1.size)
  obtain ⟨k, t, a1, n1, c1, a2, n2, c2, a3, n3, c3, rfl⟩ := i2.shaped
  have I2 := hide (i2.below ((Below.refl _ w2).alloc (Nat.le_refl _) (.cells #[.int .i64 k, .string t, .slice a1 n1 c1, .slice a2 n2 c2, .slice a3 n3 c3] 31)))
  have Y2 := hide (BoxAt.new w2 (.int .i64 k) (.string t) (.slice a1 n1 c1) (.slice a2 n2 c2) (.slice a3 n3 c3) 31)
  have B3 := hide (B2.alloc B2.size (.cells #[.int .i64 k, .string t, .slice a1 n1 c1, .slice a2 n2 c2, .slice a3 n3 c3] 31))
  clear i2 hb2 B1 HD HE
  go_wp2_with fail
  generalize hW2 : World.alloc w2 _ = W2 at *
  clear hW2
  have HSS : Hid (∀ W, Below W2.heap.size W2 W → (fun w' => w'.cell? ⟨w2.heap.size, 0, none⟩ = some (.int .i64 k) ∧ w'.cell? ⟨w2.heap.size, 1, none⟩ = some (.string t) ∧ w'.cell? ⟨w2.heap.size, 2, none⟩ = some (.slice a1 n1 c1) ∧ w'.cell? ⟨w2.heap.size, 3, none⟩ = some (.slice a2 n2 c2) ∧ w'.cell? ⟨w2.heap.size, 4, none⟩ = some (.slice a3 n3 c3)) W) := fun W hW => by
    obtain ⟨y0, y1, y2, y3, y4, _⟩ := Y2.out.below hW
    exact ⟨y0, y1, y2, y3, y4⟩
  have C2 : Below W2.heap.size W2 W2.drew := (Below.refl _ W2).drew
  refine wp_region_held_drew (S := (fun w' => w'.cell? ⟨w2.heap.size, 0, none⟩ = some (.int .i64 k) ∧ w'.cell? ⟨w2.heap.size, 1, none⟩ = some (.string t) ∧ w'.cell? ⟨w2.heap.size, 2, none⟩ = some (.slice a1 n1 c1) ∧ w'.cell? ⟨w2.heap.size, 3, none⟩ = some (.slice a2 n2 c2) ∧ w'.cell? ⟨w2.heap.size, 4, none⟩ = some (.slice a3 n3 c3))) (by kernel_rfl) (HSS.out _ C2) (fun hHeld => ?_)
  refine wpAnyH_ready (rs := [0]) (by kernel_rfl) (by simp) ?_
  refine AllReadyH.cons rfl (fun K hK => ?_) AllReadyH.nil
  go_simp
  refine (HT.out _).mono ?_
  rintro e w4 ⟨g4, rfl, i4, hbw4⟩
  have Cw4 : Below W2.heap.size W2 w4 := C2.trans (hbw4.mono C2.size)
  have I4 := hide i4
  clear i4
  refine hK.out _ _ (HSS.out _ Cw4) (fun hHeld => ?_)
  clear hK K hHeld
  have hHeld := HSS.out _ Cw4
  refine wpAnyH_ready (rs := [1]) (by kernel_rfl) (by simp) ?_
  refine AllReadyH.cons rfl (fun K hK => ?_) AllReadyH.nil
  go_simp
  refine (HC.out _ _ I4.out).mono ?_
  rintro e w5 ⟨rfl, hbw5⟩
  have Cw5 : Below W2.heap.size W2 w5 := Cw4.trans (hbw5.mono Cw4.size)
  refine hK.out _ _ (HSS.out _ Cw5) (fun hHeld => ?_)
  clear hK K hHeld
  have hHeld := HSS.out _ Cw5
  refine wpAnyH_take (i := 2) (v := .bool true) rfl (by kernel_rfl) (by kernel_rfl) (by kernel_rfl) (fun _ _ _ h => h) (Or.inl ⟨by kernel_rfl, by intro w hSw; (try dsimp only at hSw); go_simp⟩) (by assumption) ?_
  refine wpAnyH_take (i := 3) (v := .bool true) rfl (by kernel_rfl) (by kernel_rfl) (by kernel_rfl) (fun _ _ _ h => h) (Or.inl ⟨by kernel_rfl, by intro w hSw; (try dsimp only at hSw); go_simp⟩) (by assumption) ?_
  refine wpAnyH_take (i := 4) (v := .int .i64 0) rfl (by kernel_rfl) (by kernel_rfl) (by kernel_rfl) (fun _ _ _ h => h) (Or.inl ⟨by kernel_rfl, by intro w hSw; (try dsimp only at hSw); go_simp⟩) (by assumption) ?_
  refine wpAnyH_take (i := 5) (v := .bool true) rfl (by kernel_rfl) (by kernel_rfl) (by kernel_rfl) (fun _ _ _ h => h) (Or.inl ⟨by kernel_rfl, by intro w hSw; (try dsimp only at hSw); go_simp⟩) (by assumption) ?_
  refine wpAnyH_take (i := 6) (v := .bool true) rfl (by kernel_rfl) (by kernel_rfl) (by kernel_rfl) (fun _ _ _ h => h) (Or.inl ⟨by kernel_rfl, by intro w hSw; (try dsimp only at hSw); go_simp⟩) (by assumption) ?_
  refine wpAnyH_take (i := 7) (v := .bool true) rfl (by kernel_rfl) (by kernel_rfl) (by kernel_rfl) (fun _ _ _ h => h) (Or.inl ⟨by kernel_rfl, by intro w hSw; (try dsimp only at hSw); go_simp⟩) (by assumption) ?_
  refine wpAnyH_take (i := 8) (v := .int .i64 0) rfl (by kernel_rfl) (by kernel_rfl) (by kernel_rfl) (fun _ _ _ h => h) (Or.inl ⟨by kernel_rfl, by intro w hSw; (try dsimp only at hSw); go_simp⟩) (by assumption) ?_
  refine wpAnyH_take (i := 9) (v := .bool true) rfl (by kernel_rfl) (by kernel_rfl) (by kernel_rfl) (fun _ _ _ h => h) (Or.inl ⟨by kernel_rfl, by intro w hSw; (try dsimp only at hSw); go_simp⟩) (by assumption) ?_
  refine wpAnyH_take (i := 10) (v := .bool true) rfl (by kernel_rfl) (by kernel_rfl) (by kernel_rfl) (fun _ _ _ h => h) (Or.inl ⟨by kernel_rfl, by intro w hSw; (try dsimp only at hSw); go_simp⟩) (by assumption) ?_
  refine wpAnyH_take (i := 11) (v := .bool true) rfl (by kernel_rfl) (by kernel_rfl) (by kernel_rfl) (fun _ _ _ h => h) (Or.inl ⟨by kernel_rfl, by intro w hSw; (try dsimp only at hSw); go_simp⟩) (by assumption) ?_
  refine wpAnyH_take (i := 12) (v := .agg #[.int .i64 k, .string t, .slice a1 n1 c1, .slice a2 n2 c2, .slice a3 n3 c3]) rfl (by kernel_rfl) (by kernel_rfl) (by kernel_rfl) (fun _ _ _ h => h) (Or.inl ⟨by kernel_rfl, by intro w hSw; (try dsimp only at hSw); go_simp⟩) (by assumption) ?_
  refine wpAnyH_ready (rs := [13]) (by kernel_rfl) (by simp) ?_
  refine AllReadyH.cons rfl (fun K hK => ?_) AllReadyH.nil
  go_simp
  refine (HT.out _).mono ?_
  rintro e w6 ⟨g6, rfl, i6, hbw6⟩
  have Cw6 : Below W2.heap.size W2 w6 := Cw5.trans (hbw6.mono Cw5.size)
  have I6 := hide i6
  clear i6
  refine hK.out _ _ (HSS.out _ Cw6) (fun hHeld => ?_)
  clear hK K hHeld
  have hHeld := HSS.out _ Cw6
  refine wpAnyH_ready (rs := [14]) (by kernel_rfl) (by simp) ?_
  refine AllReadyH.cons rfl (fun K hK => ?_) AllReadyH.nil
  go_simp
  refine (HS.out _ _ _ (I2.out.below Cw6) I6.out).mono ?_
  rintro e w7 ⟨rfl, hbw7⟩
  have Cw7 : Below W2.heap.size W2 w7 := Cw6.trans (hbw7.mono Cw6.size)
  refine hK.out _ _ (HSS.out _ Cw7) (fun hHeld => ?_)
  clear hK K hHeld
  have hHeld := HSS.out _ Cw7
  refine wpAnyH_take (i := 15) (v := .bool true) rfl (by kernel_rfl) (by kernel_rfl) (by kernel_rfl) (fun _ _ _ h => h) (Or.inl ⟨by kernel_rfl, by intro w hSw; (try dsimp only at hSw); go_simp⟩) (by assumption) ?_
  refine wpAnyH_take (i := 16) (v := .bool true) rfl (by kernel_rfl) (by kernel_rfl) (by kernel_rfl) (fun _ _ _ h => h) (Or.inl ⟨by kernel_rfl, by intro w hSw; (try dsimp only at hSw); go_simp⟩) (by assumption) ?_
  refine wpAnyH_take (i := 17) (v := .string ⟨#[5, 3, 59, 154, 201, 254, 1, 98, 59, 154, 202, 1, 1, 97, 59, 154, 202, 1, 1, 99]⟩) rfl (by kernel_rfl) (by kernel_rfl) (by kernel_rfl) (fun _ _ _ h => h) (Or.inl ⟨by kernel_rfl, by intro w hSw; (try dsimp only at hSw); go_simp⟩) (by assumption) ?_
  refine wpAnyH_take (i := 18) (v := .int .i64 20) rfl (by kernel_rfl) (by kernel_rfl) (by kernel_rfl) (fun _ _ _ h => h) (Or.inl ⟨by kernel_rfl, by intro w hSw; (try dsimp only at hSw); go_simp⟩) (by assumption) ?_
  refine wpAnyH_take (i := 19) (v := .bool true) rfl (by kernel_rfl) (by kernel_rfl) (by kernel_rfl) (fun _ _ _ h => h) (Or.inl ⟨by kernel_rfl, by intro w hSw; (try dsimp only at hSw); go_simp⟩) (by assumption) ?_
  refine wpAnyH_take (i := 20) (v := .bool true) rfl (by kernel_rfl) (by kernel_rfl) (by kernel_rfl) (fun _ _ _ h => h) (Or.inl ⟨by kernel_rfl, by intro w hSw; (try dsimp only at hSw); go_simp⟩) (by assumption) ?_
  refine wpAnyH_take (i := 21) (v := .bool true) rfl (by kernel_rfl) (by kernel_rfl) (by kernel_rfl) (fun _ _ _ h => h) (Or.inl ⟨by kernel_rfl, by intro w hSw; (try dsimp only at hSw); go_simp⟩) (by assumption) ?_
  refine wpAnyH_take (i := 22) (v := .string ⟨#[5, 3, 59, 154, 201, 254, 1, 98, 59, 154, 202, 1, 1, 97, 59, 154, 202, 1, 1, 99]⟩) rfl (by kernel_rfl) (by kernel_rfl) (by kernel_rfl) (fun _ _ _ h => h) (Or.inl ⟨by kernel_rfl, by intro w hSw; (try dsimp only at hSw); go_simp⟩) (by assumption) ?_
  refine wpAnyH_take (i := 23) (v := .string ⟨#[5, 3, 59, 154, 201, 254, 1, 98]⟩) rfl (by kernel_rfl) (by kernel_rfl) (by kernel_rfl) (fun _ _ _ h => h) (Or.inl ⟨by kernel_rfl, by intro w hSw; (try dsimp only at hSw); go_simp; first | rfl | decide +kernel⟩) (by assumption) ?_
  refine wpAnyH_take (i := 24) (v := .bool true) rfl (by kernel_rfl) (by kernel_rfl) (by kernel_rfl) (fun _ _ _ h => h) (Or.inl ⟨by kernel_rfl, by intro w hSw; (try dsimp only at hSw); go_simp⟩) (by assumption) ?_
  refine wpAnyH_take (i := 25) (v := .bool true) rfl (by kernel_rfl) (by kernel_rfl) (by kernel_rfl) (fun _ _ _ h => h) (Or.inl ⟨by kernel_rfl, by intro w hSw; (try dsimp only at hSw); go_simp⟩) (by assumption) ?_
  refine wpAnyH_take (i := 26) (v := .bool true) rfl (by kernel_rfl) (by kernel_rfl) (by kernel_rfl) (fun _ _ _ h => h) (Or.inl ⟨by kernel_rfl, by intro w hSw; (try dsimp only at hSw); go_simp⟩) (by assumption) ?_
  refine wpAnyH_done (by kernel_rfl) ?_ _
  clear hHeld HSS
  go_wp2_with fail
  go_ret
  exact ⟨rfl, B3.out.trans (Cw7.mono B3.out.size)⟩
end Go.Proofs.Ytolpmaapdkhigab
