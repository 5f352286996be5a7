/- WALKS of an item's writing: a text, a number. -/
import Derived.Test.YtolpmaapdkhigabIBuild
import Derived.Test.YtolpmaapdkhigabIEncP
import Derived.Deep.RegionHeld3
import Derived.Handy
namespace Go.Proofs.Ytolpmaapdkhigab
open Go.RowKit

/-- a writer that lies in a block has written these bytes -/
def Writ (B b : Nat) (l : List UInt8) (w : World) : Prop := Lib.IsBuilder 50 5 B b (Lib.byteCells l) w
theorem Writ.lt {B b : Nat} {l : List UInt8} {w : World} (h : Writ B b l w) : b < w.heap.size := by
  rcases h with ⟨_, v, h, _⟩ | ⟨_, v, h, _⟩
  · exact (Array.getElem?_eq_some_iff.1 h).1
  · exact (Array.getElem?_eq_some_iff.1 h).1
theorem Writ.below {B b : Nat} {l : List UInt8} {w w' : World} (h : Writ B b l w) (hb : Below w.heap.size w w') : Writ B b l w' := by
  have go : ∀ p, Lib.BuilderAt 50 5 B b p (Lib.byteCells l) w → Lib.BuilderAt 50 5 B b p (Lib.byteCells l) w' := fun p ⟨h1, v, h2, h3, h4⟩ => by
    refine ⟨h1, v, ?_, ?_, h4⟩
    · rw [hb.block b (Array.getElem?_eq_some_iff.1 h2).1]; exact h2
    · exact (Kept.of_below hb (fun _ => False)).owns h3 (fun _ _ e => e)
  rcases h with h | h
  · exact .inl (go _ h)
  · exact .inr (go _ h)
theorem writByte_any (B b : Nat) (l : List UInt8) (c : UInt8) (ci : Int) (hc : ci = (c.toNat : Int)) (w : World) (h : Writ B b l w) (hl : l.length ≤ 1000000) (hB : B ≤ w.heap.size) :
    Calls Try.prog 19 #[.pointer (some ⟨b, 0, none⟩), .int .u8 ci] w fun e w' => e = .returned .nilIface ∧ Writ B b (l ++ [c]) w' ∧ Below B w w' ∧ Guest b w w' := by
  refine (writeByte_any B b (Lib.byteCells l) ci w h (by rw [Lib.byteCells_length]; omega) hB).mono ?_
  rintro e w' ⟨rfl, h1, h2, h3⟩
  refine ⟨rfl, ?_, h2, h3⟩
  unfold Writ
  rw [← byteCells_app]
  simpa [Lib.byteCells, hc] using h1
theorem writStr_any (B b : Nat) (l : List UInt8) (s : ByteArray) (w : World) (h : Writ B b l w) (hl : l.length ≤ 1000000) (hs : s.size ≤ 1000000) (hB : B ≤ w.heap.size) :
    Calls Try.prog 20 #[.pointer (some ⟨b, 0, none⟩), .string s] w fun e w' => e = .returned (.tuple #[.int .i64 s.size, .nilIface]) ∧ Writ B b (l ++ s.data.toList) w' ∧ Below B w w' ∧ Guest b w w' := by
  refine (writeString_any B b (Lib.byteCells l) s w h (by rw [Lib.byteCells_length]; omega) hB).mono ?_
  rintro e w' ⟨rfl, h1, h2, h3⟩
  refine ⟨rfl, ?_, h2, h3⟩
  unfold Writ
  rw [← byteCells_app, ← strCells_list]
  exact h1
set_option maxHeartbeats 1000000 in
theorem writeText_any (B b : Nat) (l : List UInt8) (s : ByteArray) (w : World) (h : Writ B b l w) (hl : l.length ≤ 900000) (hs : s.size ≤ 60) (hB : B ≤ w.heap.size) :
    Calls Try.prog 22 #[.pointer (some ⟨b, 0, none⟩), .string s] w fun e w' => e = .returned (.tuple #[]) ∧ Writ B b (l ++ encT s) w' ∧ Below B w w' ∧ Guest b w w' := by
  have hsi : ((s.size : Nat) : Int) ≤ 60 := by omega
  have HA : Hid (∀ W, Writ B b l W → B ≤ W.heap.size → Calls Try.prog 19 #[.pointer (some ⟨b, 0, none⟩), .int .u8 ((s.size : Nat) : Int)] W fun e w' => e = .returned .nilIface ∧ Writ B b (l ++ [UInt8.ofNat s.size]) w' ∧ Below B W w' ∧ Guest b W w') := fun W h1 h2 => writByte_any B b l (UInt8.ofNat s.size) _ (by rw [ofNat_nat]; omega) W h1 (by omega) h2
  have HS : Hid (∀ W, Writ B b (l ++ [UInt8.ofNat s.size]) W → B ≤ W.heap.size → Calls Try.prog 20 #[.pointer (some ⟨b, 0, none⟩), .string s] W fun e w' => e = .returned (.tuple #[.int .i64 s.size, .nilIface]) ∧ Writ B b (l ++ [UInt8.ofNat s.size] ++ s.data.toList) w' ∧ Below B W w' ∧ Guest b W w') := fun W h1 h2 => writStr_any B b _ s W h1 (by simp; omega) (by omega) h2
  have H0 := hide h
  clear h
  go_enter Try.func22, Try.ntmps22
  go_wp2_with fail
  refine (HA.out _ H0.out hB).mono ?_
  rintro e w1 ⟨rfl, h1, hb1, hq1⟩
  have H1 := hide h1
  have hB1 := Nat.le_trans hB hb1.size
  clear h1
  go_wp2_with fail
  refine (HS.out _ H1.out hB1).mono ?_
  rintro e w2 ⟨rfl, h2, hb2, hq2⟩
  have H2 := hide h2
  clear h2
  go_wp2_with fail
  go_end0
  refine ⟨rfl, ?_, hb1.trans hb2, hq1.trans hq2⟩
  have := H2.out
  rw [List.append_assoc] at this
  exact this
theorem wrap64_small (a : Int) (h1 : -9223372036854775808 ≤ a) (h2 : a ≤ 9223372036854775807) : IntKind.i64.wrap a = a := by
  simp only [IntKind.wrap, IntKind.bits, IntKind.signed]
  first | omega | (simp; omega)
theorem wrap8 (a : Int) : IntKind.u8.wrap a = a % 256 := by
  simp [IntKind.wrap, IntKind.bits, IntKind.signed]
set_option maxRecDepth 100000 in
set_option maxHeartbeats 2000000 in
theorem writeNumber_any (B b : Nat) (l : List UInt8) (n : Int) (w : World) (h : Writ B b l w) (hl : l.length ≤ 900000) (h0 : -999999999 ≤ n) (h1 : n ≤ 999999999) (hB0 : B ≤ w.heap.size) :
    Calls Try.prog 23 #[.pointer (some ⟨b, 0, none⟩), .int .i64 n] w fun e w' => e = .returned (.tuple #[]) ∧ Writ B b (l ++ num4 n) w' ∧ Below B w w' ∧ Guest b w w' := by
  have H0 := hide h
  clear h
  go_enter Try.func23, Try.ntmps23
  go_wp2_with fail
  refine wp_loop_rounds 5 ?_
  rw [rounds_succ]
  go_wp2_with fail
  refine wp_region_held_drew (S := fun _ => True) (by kernel_rfl) trivial (fun hHeld => ?_)
  refine wpAnyH_take (i := 0) (v := .pointer (some ⟨b, 0, none⟩)) rfl (by kernel_rfl) (by kernel_rfl) (by kernel_rfl) (fun _ _ _ h => h) (Or.inl ⟨by kernel_rfl, by intro w hSw; go_simp⟩) (by assumption) ?_
  refine wpAnyH_take (i := 3) (v := .int .i64 n) rfl (by kernel_rfl) (by kernel_rfl) (by kernel_rfl) (fun _ _ _ h => h) (Or.inl ⟨by kernel_rfl, by intro w hSw; go_simp⟩) (by assumption) ?_
  refine wpAnyH_take (i := 5) (v := .int .i64 3) rfl (by kernel_rfl) (by kernel_rfl) (by kernel_rfl) (fun _ _ _ h => h) (Or.inl ⟨by kernel_rfl, by intro w hSw; go_simp⟩) (by assumption) ?_
  refine wpAnyH_take (i := 1) (v := .pointer (some ⟨b, 0, none⟩)) rfl (by kernel_rfl) (by kernel_rfl) (by kernel_rfl) (fun _ _ _ h => h) (Or.inl ⟨by kernel_rfl, by intro w hSw; go_simp⟩) (by assumption) ?_
  refine wpAnyH_take (i := 2) (v := .pointer (some ⟨b, 0, none⟩)) rfl (by kernel_rfl) (by kernel_rfl) (by kernel_rfl) (fun _ _ _ h => h) (Or.inl ⟨by kernel_rfl, by intro w hSw; go_simp⟩) (by assumption) ?_
  refine wpAnyH_take (i := 4) (v := .int .i64 (n + 999999999)) rfl (by kernel_rfl) (by kernel_rfl) (by kernel_rfl) (fun _ _ _ h => h) (Or.inl ⟨by kernel_rfl, by intro w hSw; go_simp; exact wrap64_small _ (by omega) (by omega)⟩) (by assumption) ?_
  refine wpAnyH_take (i := 6) (v := .int .i64 24) rfl (by kernel_rfl) (by kernel_rfl) (by kernel_rfl) (fun _ _ _ h => h) (Or.inl ⟨by kernel_rfl, by intro w hSw; go_simp; exact wrap64_small _ (by omega) (by omega)⟩) (by assumption) ?_
  refine wpAnyH_take (i := 7) (v := .int .i64 ((n + 999999999) / 16777216)) rfl (by kernel_rfl) (by kernel_rfl) (by kernel_rfl) (fun _ _ _ h => h) (Or.inl ⟨by kernel_rfl, by intro w hSw; go_simp⟩) (by assumption) ?_
  refine wpAnyH_take (i := 8) (v := .int .u8 (((n + 999999999) / 16777216) % 256)) rfl (by kernel_rfl) (by kernel_rfl) (by kernel_rfl) (fun _ _ _ h => h) (Or.inl ⟨by kernel_rfl, by intro w hSw; go_simp; exact wrap8 _⟩) (by assumption) ?_
  refine wpAnyH_ready (rs := [9]) (by kernel_rfl) (by simp) ?_
  refine AllReadyH.cons rfl (fun K hK => ?_) AllReadyH.nil
  go_simp
  refine (writByte_any B b (l) (UInt8.ofNat ((n + 999999999).toNat / 16777216)) (((n + 999999999) / 16777216) % 256) (by rw [ofNat_nat]; omega) (World.drew w) (by exact H0.out) (by first | omega | (simp; omega)) (by exact hB0)).mono ?_
  rintro e w1 ⟨rfl, hW1, hb1, hq1⟩
  refine hK.out _ _ trivial (fun _ => ?_)
  clear hK K hHeld
  have H1 := hide hW1
  have hB1 : B ≤ w1.heap.size := Nat.le_trans hB0 hb1.size
  have E1 : Below B w w1 := ⟨hb1.os, hb1.tape, hb1.output, hb1.size, hb1.block⟩
  clear hW1 H0
  refine wpAnyH_done (by kernel_rfl) ?_ _
  go_wp2_with fail
  rw [rounds_succ]
  go_wp2_with fail
  refine wp_region_held_drew (S := fun _ => True) (by kernel_rfl) trivial (fun hHeld => ?_)
  refine wpAnyH_take (i := 0) (v := .pointer (some ⟨b, 0, none⟩)) rfl (by kernel_rfl) (by kernel_rfl) (by kernel_rfl) (fun _ _ _ h => h) (Or.inl ⟨by kernel_rfl, by intro w hSw; go_simp⟩) (by assumption) ?_
  refine wpAnyH_take (i := 3) (v := .int .i64 n) rfl (by kernel_rfl) (by kernel_rfl) (by kernel_rfl) (fun _ _ _ h => h) (Or.inl ⟨by kernel_rfl, by intro w hSw; go_simp⟩) (by assumption) ?_
  refine wpAnyH_take (i := 5) (v := .int .i64 2) rfl (by kernel_rfl) (by kernel_rfl) (by kernel_rfl) (fun _ _ _ h => h) (Or.inl ⟨by kernel_rfl, by intro w hSw; go_simp⟩) (by assumption) ?_
  refine wpAnyH_take (i := 1) (v := .pointer (some ⟨b, 0, none⟩)) rfl (by kernel_rfl) (by kernel_rfl) (by kernel_rfl) (fun _ _ _ h => h) (Or.inl ⟨by kernel_rfl, by intro w hSw; go_simp⟩) (by assumption) ?_
  refine wpAnyH_take (i := 2) (v := .pointer (some ⟨b, 0, none⟩)) rfl (by kernel_rfl) (by kernel_rfl) (by kernel_rfl) (fun _ _ _ h => h) (Or.inl ⟨by kernel_rfl, by intro w hSw; go_simp⟩) (by assumption) ?_
  refine wpAnyH_take (i := 4) (v := .int .i64 (n + 999999999)) rfl (by kernel_rfl) (by kernel_rfl) (by kernel_rfl) (fun _ _ _ h => h) (Or.inl ⟨by kernel_rfl, by intro w hSw; go_simp; exact wrap64_small _ (by omega) (by omega)⟩) (by assumption) ?_
  refine wpAnyH_take (i := 6) (v := .int .i64 16) rfl (by kernel_rfl) (by kernel_rfl) (by kernel_rfl) (fun _ _ _ h => h) (Or.inl ⟨by kernel_rfl, by intro w hSw; go_simp; exact wrap64_small _ (by omega) (by omega)⟩) (by assumption) ?_
  refine wpAnyH_take (i := 7) (v := .int .i64 ((n + 999999999) / 65536)) rfl (by kernel_rfl) (by kernel_rfl) (by kernel_rfl) (fun _ _ _ h => h) (Or.inl ⟨by kernel_rfl, by intro w hSw; go_simp⟩) (by assumption) ?_
  refine wpAnyH_take (i := 8) (v := .int .u8 (((n + 999999999) / 65536) % 256)) rfl (by kernel_rfl) (by kernel_rfl) (by kernel_rfl) (fun _ _ _ h => h) (Or.inl ⟨by kernel_rfl, by intro w hSw; go_simp; exact wrap8 _⟩) (by assumption) ?_
  refine wpAnyH_ready (rs := [9]) (by kernel_rfl) (by simp) ?_
  refine AllReadyH.cons rfl (fun K hK => ?_) AllReadyH.nil
  go_simp
  refine (writByte_any B b (l ++ [UInt8.ofNat ((n + 999999999).toNat / 16777216)]) (UInt8.ofNat ((n + 999999999).toNat / 65536)) (((n + 999999999) / 65536) % 256) (by rw [ofNat_nat]; omega) (World.drew w1) (by exact H1.out) (by first | omega | (simp; omega)) (by exact hB1)).mono ?_
  rintro e w2 ⟨rfl, hW2, hb2, hq2⟩
  refine hK.out _ _ trivial (fun _ => ?_)
  clear hK K hHeld
  have H2 := hide hW2
  have hB2 : B ≤ w2.heap.size := Nat.le_trans hB1 hb2.size
  have E2 : Below B w w2 := E1.trans ⟨hb2.os, hb2.tape, hb2.output, hb2.size, hb2.block⟩
  clear hW2 H1
  refine wpAnyH_done (by kernel_rfl) ?_ _
  go_wp2_with fail
  rw [rounds_succ]
  go_wp2_with fail
  refine wp_region_held_drew (S := fun _ => True) (by kernel_rfl) trivial (fun hHeld => ?_)
  refine wpAnyH_take (i := 0) (v := .pointer (some ⟨b, 0, none⟩)) rfl (by kernel_rfl) (by kernel_rfl) (by kernel_rfl) (fun _ _ _ h => h) (Or.inl ⟨by kernel_rfl, by intro w hSw; go_simp⟩) (by assumption) ?_
  refine wpAnyH_take (i := 3) (v := .int .i64 n) rfl (by kernel_rfl) (by kernel_rfl) (by kernel_rfl) (fun _ _ _ h => h) (Or.inl ⟨by kernel_rfl, by intro w hSw; go_simp⟩) (by assumption) ?_
  refine wpAnyH_take (i := 5) (v := .int .i64 1) rfl (by kernel_rfl) (by kernel_rfl) (by kernel_rfl) (fun _ _ _ h => h) (Or.inl ⟨by kernel_rfl, by intro w hSw; go_simp⟩) (by assumption) ?_
  refine wpAnyH_take (i := 1) (v := .pointer (some ⟨b, 0, none⟩)) rfl (by kernel_rfl) (by kernel_rfl) (by kernel_rfl) (fun _ _ _ h => h) (Or.inl ⟨by kernel_rfl, by intro w hSw; go_simp⟩) (by assumption) ?_
  refine wpAnyH_take (i := 2) (v := .pointer (some ⟨b, 0, none⟩)) rfl (by kernel_rfl) (by kernel_rfl) (by kernel_rfl) (fun _ _ _ h => h) (Or.inl ⟨by kernel_rfl, by intro w hSw; go_simp⟩) (by assumption) ?_
  refine wpAnyH_take (i := 4) (v := .int .i64 (n + 999999999)) rfl (by kernel_rfl) (by kernel_rfl) (by kernel_rfl) (fun _ _ _ h => h) (Or.inl ⟨by kernel_rfl, by intro w hSw; go_simp; exact wrap64_small _ (by omega) (by omega)⟩) (by assumption) ?_
  refine wpAnyH_take (i := 6) (v := .int .i64 8) rfl (by kernel_rfl) (by kernel_rfl) (by kernel_rfl) (fun _ _ _ h => h) (Or.inl ⟨by kernel_rfl, by intro w hSw; go_simp; exact wrap64_small _ (by omega) (by omega)⟩) (by assumption) ?_
  refine wpAnyH_take (i := 7) (v := .int .i64 ((n + 999999999) / 256)) rfl (by kernel_rfl) (by kernel_rfl) (by kernel_rfl) (fun _ _ _ h => h) (Or.inl ⟨by kernel_rfl, by intro w hSw; go_simp⟩) (by assumption) ?_
  refine wpAnyH_take (i := 8) (v := .int .u8 (((n + 999999999) / 256) % 256)) rfl (by kernel_rfl) (by kernel_rfl) (by kernel_rfl) (fun _ _ _ h => h) (Or.inl ⟨by kernel_rfl, by intro w hSw; go_simp; exact wrap8 _⟩) (by assumption) ?_
  refine wpAnyH_ready (rs := [9]) (by kernel_rfl) (by simp) ?_
  refine AllReadyH.cons rfl (fun K hK => ?_) AllReadyH.nil
  go_simp
  refine (writByte_any B b (l ++ [UInt8.ofNat ((n + 999999999).toNat / 16777216)] ++ [UInt8.ofNat ((n + 999999999).toNat / 65536)]) (UInt8.ofNat ((n + 999999999).toNat / 256)) (((n + 999999999) / 256) % 256) (by rw [ofNat_nat]; omega) (World.drew w2) (by exact H2.out) (by first | omega | (simp; omega)) (by exact hB2)).mono ?_
  rintro e w3 ⟨rfl, hW3, hb3, hq3⟩
  refine hK.out _ _ trivial (fun _ => ?_)
  clear hK K hHeld
  have H3 := hide hW3
  have hB3 : B ≤ w3.heap.size := Nat.le_trans hB2 hb3.size
  have E3 : Below B w w3 := E2.trans ⟨hb3.os, hb3.tape, hb3.output, hb3.size, hb3.block⟩
  clear hW3 H2
  refine wpAnyH_done (by kernel_rfl) ?_ _
  go_wp2_with fail
  rw [rounds_succ]
  go_wp2_with fail
  refine wp_region_held_drew (S := fun _ => True) (by kernel_rfl) trivial (fun hHeld => ?_)
  refine wpAnyH_take (i := 0) (v := .pointer (some ⟨b, 0, none⟩)) rfl (by kernel_rfl) (by kernel_rfl) (by kernel_rfl) (fun _ _ _ h => h) (Or.inl ⟨by kernel_rfl, by intro w hSw; go_simp⟩) (by assumption) ?_
  refine wpAnyH_take (i := 3) (v := .int .i64 n) rfl (by kernel_rfl) (by kernel_rfl) (by kernel_rfl) (fun _ _ _ h => h) (Or.inl ⟨by kernel_rfl, by intro w hSw; go_simp⟩) (by assumption) ?_
  refine wpAnyH_take (i := 5) (v := .int .i64 0) rfl (by kernel_rfl) (by kernel_rfl) (by kernel_rfl) (fun _ _ _ h => h) (Or.inl ⟨by kernel_rfl, by intro w hSw; go_simp⟩) (by assumption) ?_
  refine wpAnyH_take (i := 1) (v := .pointer (some ⟨b, 0, none⟩)) rfl (by kernel_rfl) (by kernel_rfl) (by kernel_rfl) (fun _ _ _ h => h) (Or.inl ⟨by kernel_rfl, by intro w hSw; go_simp⟩) (by assumption) ?_
  refine wpAnyH_take (i := 2) (v := .pointer (some ⟨b, 0, none⟩)) rfl (by kernel_rfl) (by kernel_rfl) (by kernel_rfl) (fun _ _ _ h => h) (Or.inl ⟨by kernel_rfl, by intro w hSw; go_simp⟩) (by assumption) ?_
  refine wpAnyH_take (i := 4) (v := .int .i64 (n + 999999999)) rfl (by kernel_rfl) (by kernel_rfl) (by kernel_rfl) (fun _ _ _ h => h) (Or.inl ⟨by kernel_rfl, by intro w hSw; go_simp; exact wrap64_small _ (by omega) (by omega)⟩) (by assumption) ?_
  refine wpAnyH_take (i := 6) (v := .int .i64 0) rfl (by kernel_rfl) (by kernel_rfl) (by kernel_rfl) (fun _ _ _ h => h) (Or.inl ⟨by kernel_rfl, by intro w hSw; go_simp; exact wrap64_small _ (by omega) (by omega)⟩) (by assumption) ?_
  refine wpAnyH_take (i := 7) (v := .int .i64 (n + 999999999)) rfl (by kernel_rfl) (by kernel_rfl) (by kernel_rfl) (fun _ _ _ h => h) (Or.inl ⟨by kernel_rfl, by intro w hSw; go_simp⟩) (by assumption) ?_
  refine wpAnyH_take (i := 8) (v := .int .u8 ((n + 999999999) % 256)) rfl (by kernel_rfl) (by kernel_rfl) (by kernel_rfl) (fun _ _ _ h => h) (Or.inl ⟨by kernel_rfl, by intro w hSw; go_simp; exact wrap8 _⟩) (by assumption) ?_
  refine wpAnyH_ready (rs := [9]) (by kernel_rfl) (by simp) ?_
  refine AllReadyH.cons rfl (fun K hK => ?_) AllReadyH.nil
  go_simp
  refine (writByte_any B b (l ++ [UInt8.ofNat ((n + 999999999).toNat / 16777216)] ++ [UInt8.ofNat ((n + 999999999).toNat / 65536)] ++ [UInt8.ofNat ((n + 999999999).toNat / 256)]) (UInt8.ofNat (n + 999999999).toNat) ((n + 999999999) % 256) (by rw [ofNat_nat]; omega) (World.drew w3) (by exact H3.out) (by first | omega | (simp; omega)) (by exact hB3)).mono ?_
  rintro e w4 ⟨rfl, hW4, hb4, hq4⟩
  refine hK.out _ _ trivial (fun _ => ?_)
  clear hK K hHeld
  have H4 := hide hW4
  have hB4 : B ≤ w4.heap.size := Nat.le_trans hB3 hb4.size
  have E4 : Below B w w4 := E3.trans ⟨hb4.os, hb4.tape, hb4.output, hb4.size, hb4.block⟩
  clear hW4 H3
  refine wpAnyH_done (by kernel_rfl) ?_ _
  go_wp2_with fail
  rw [rounds_succ]
  go_wp2_with fail
  go_end0
  refine ⟨rfl, ?_, E4, (((Guest.trans (w2 := w1) hq1 hq2).trans hq3).trans hq4)⟩
  have := H4.out
  simpa [num4] using this
end Go.Proofs.Ytolpmaapdkhigab
