/- WALK of an item out of bytes. -/
import Derived.Test.YtolpmaapdkhigabIDec7
import Derived.Handy
namespace Go.Proofs.Ytolpmaapdkhigab
open Go.RowKit

theorem five_off (w : World) (b : Nat) (v0 v1 v2 v3 v4 : Value) (g o : Nat) (hg : g ≠ b) : (((((w.setCell ⟨b, 0, none⟩ v0).setCell ⟨b, 1, none⟩ v1).setCell ⟨b, 2, none⟩ v2).setCell ⟨b, 3, none⟩ v3).setCell ⟨b, 4, none⟩ v4).cell? ⟨g, o, none⟩ = w.cell? ⟨g, o, none⟩ := by
  rw [World.cell?_setCell_other _ _ _ _ (by intro e; injection e with e1; omega), World.cell?_setCell_other _ _ _ _ (by intro e; injection e with e1; omega), World.cell?_setCell_other _ _ _ _ (by intro e; injection e with e1; omega), World.cell?_setCell_other _ _ _ _ (by intro e; injection e with e1; omega), World.cell?_setCell_other _ _ _ _ (by intro e; injection e with e1; omega)]
set_option maxRecDepth 100000 in
set_option maxHeartbeats 16000000 in
theorem decAll_any (b : Nat) (s : ByteArray) (l : List UInt8) (w : World) (h : AtL b s l w) (hs : s.size ≤ 281474976710656) :
    Calls Try.prog 26 #[.pointer (some ⟨b, 0, none⟩)] w fun e w' => Kept (one b) w w' ∧ (pItem l = none → ∃ n : Int, n ≠ 0 ∧ e = .panicked [{ v := .iface 92 (.agg #[.int .i64 (n)]), recovered := false }]) ∧ ∀ x, pItem l = some x → ∃ v, e = .returned v ∧ ∀ W, Stays (w.heap.size + 1) w' W → ItemIs W v x := by
  have hbl := h.lt
  have hne : w.heap.size ≠ b := by omega
  have HK : Hid (Kept (one b) w (w.alloc (.cells #[.int .i64 0, .string ⟨#[]⟩, .slice none 0 0, .slice none 0 0, .slice none 0 0] 31))) := (Kept.refl _ _).alloc _
  have RB := hide (BoxAt.new w (.int .i64 0) (.string ⟨#[]⟩) (.slice none 0 0) (.slice none 0 0) (.slice none 0 0) 31)
  have RSo : Hid (SoftB (w.alloc (.cells #[.int .i64 0, .string ⟨#[]⟩, .slice none 0 0, .slice none 0 0, .slice none 0 0] 31)) w.heap.size) := fun j => by simp [go_sem]
  have hA := h.alloc (.cells #[.int .i64 0, .string ⟨#[]⟩, .slice none 0 0, .slice none 0 0, .slice none 0 0] 31)
  clear h
  cases l with
  | nil =>
    have HN := hide (next_short b s _ hA)
    clear hA
    go_enter Try.func26, Try.ntmps26
    go_wp2_with fail
    refine HN.out.mono ?_
    rintro e w1 ⟨rfl, hk1⟩
    exact ⟨rfl, HK.out.trans hk1, fun _ => ⟨8, by decide, rfl⟩, fun x hx => by cases hx⟩
  | cons c r =>
    have HN := hide (next_ok b s c r _ hA)
    have hc := byte_lt c
    clear hA
    by_cases k1 : c.toNat = 1
    · have HP : Hid (pItem (c :: r) = some ⟨1, ⟨r.toArray⟩, [], [], []⟩) := by rw [Hid, pItem, if_pos k1]
      rw [k1] at HN
      generalize pItem (c :: r) = PI at *
      clear hc k1
      go_enter Try.func26, Try.ntmps26
      go_wp2_with fail
      refine HN.out.mono ?_
      rintro e w1 ⟨rfl, h1, hk1⟩
      have hz1 : w.heap.size < w1.heap.size := by have := hk1.size; simp at this; omega
      have R1 := hide (RB.out.kept hk1 hne)
      have RS1 := hide (RSo.out.kept hk1 RB.out.lt hne)
      have A1 := hide (h1.alloc (.cells #[.int .i64 1, .string ⟨#[]⟩, .slice none 0 0, .slice none 0 0, .slice none 0 0] 31))
      have X1 := hide (BoxAt.new w1 (.int .i64 1) (.string ⟨#[]⟩) (.slice none 0 0) (.slice none 0 0) (.slice none 0 0) 31)
      have XS1 : Hid (SoftB (w1.alloc (.cells #[.int .i64 1, .string ⟨#[]⟩, .slice none 0 0, .slice none 0 0, .slice none 0 0] 31)) w1.heap.size) := fun j => by simp [go_sem]
      have K1 := hide ((HK.out.trans hk1).alloc (.cells #[.int .i64 1, .string ⟨#[]⟩, .slice none 0 0, .slice none 0 0, .slice none 0 0] 31))
      have R2 := hide (R1.out.alloc (.cells #[.int .i64 1, .string ⟨#[]⟩, .slice none 0 0, .slice none 0 0, .slice none 0 0] 31))
      have RS2 : Hid (SoftB (w1.alloc (.cells #[.int .i64 1, .string ⟨#[]⟩, .slice none 0 0, .slice none 0 0, .slice none 0 0] 31)) w.heap.size) := fun j => by
        have := RS1.out j
        simpa using (((Below.refl w1.heap.size w1).alloc (Nat.le_refl _) (.cells #[.int .i64 1, .string ⟨#[]⟩, .slice none 0 0, .slice none 0 0, .slice none 0 0] 31)).frozen (p := ⟨w.heap.size, j, none⟩) hz1).trans this
      have hz2 : w1.heap.size < (w1.alloc (.cells #[.int .i64 1, .string ⟨#[]⟩, .slice none 0 0, .slice none 0 0, .slice none 0 0] 31)).heap.size := by simp
      have hnx : w1.heap.size ≠ b := by omega
      clear h1 hk1 R1 RS1 HN HK RB RSo
      have hrl := A1.out.len
      have hsm := A1.out.1.small
      go_wp2_with fail
      refine (leftd_any b s r _ A1.out).mono ?_
      rintro e w2 ⟨rfl, n2, rfl⟩
      have HT := hide (take_ok b s r r.length _ (A1.out.drewN n2) (Nat.le_refl _) hs)
      rw [List.take_length, List.drop_length] at HT
      have hsz : (ByteArray.mk r.toArray).size = r.length := size_mk r
      have hrl' : ((r.length : Nat) : Int) ≤ 281474976710656 := by omega
      have HSZ : Hid ((ByteArray.mk r.toArray).size ≤ maxLen) := by rw [Hid, hsz]; omega
      go_wp2_with fail
      clear hsz
      generalize ByteArray.mk r.toArray = TX at *
      refine HT.out.mono ?_
      rintro e w3 ⟨rfl, hA3, hk3⟩
      have A3 := hide hA3
      have kk : Kept (one b) (w1.alloc (.cells #[.int .i64 1, .string ⟨#[]⟩, .slice none 0 0, .slice none 0 0, .slice none 0 0] 31)) w3 := ((Kept.refl (one b) _).drewN n2).trans hk3
      have X3 := hide (X1.out.kept kk hnx)
      have XS3 := hide (XS1.out.kept kk hz2 hnx)
      have R3 := hide (R2.out.kept kk hne)
      have RS3 := hide (RS2.out.kept kk R2.out.lt hne)
      have K3 := hide (K1.out.trans kk)
      clear hA3 HT A1 X1 XS1 R2 RS2 K1 hk3 kk
      obtain ⟨x0, x1, x2, x3, x4, xlt⟩ := X3.out
      have xf := XS3.out 1
      go_wp2_with fail
      have A4 := hide (A3.out.setOther (g := w1.heap.size) (o := 1) hnx (.string TX))
      have K4 := hide (K3.out.setNew (g := w1.heap.size) (o := 1) (Nat.le_of_lt hz1) (.string TX))
      have Q4 : Hid (Kept (one w1.heap.size) w3 (w3.setCell ⟨w1.heap.size, 1, none⟩ (.string TX))) := (Kept.refl _ _).set1 _ _
      have X4 : Hid (BoxAt (w3.setCell ⟨w1.heap.size, 1, none⟩ (.string TX)) w1.heap.size (.int .i64 1) (.string TX) (.slice none 0 0) (.slice none 0 0) (.slice none 0 0)) := ⟨(World.cell?_setCell_other _ _ _ _ (by simp)).trans x0, World.cell?_setCell_same _ _ _ x1, (World.cell?_setCell_other _ _ _ _ (by simp)).trans x2, (World.cell?_setCell_other _ _ _ _ (by simp)).trans x3, (World.cell?_setCell_other _ _ _ _ (by simp)).trans x4, by simpa using xlt⟩
      have R4 := hide (R3.out.kept Q4.out (by omega))
      have RS4 := hide (RS3.out.kept Q4.out R3.out.lt (by omega))
      clear x0 x1 x2 x3 x4 xlt xf A3 K3 X3 XS3 R3 RS3
      generalize hW4 : World.setCell w3 _ _ = W4 at *
      clear hW4
      refine (done_nil b s W4 A4.out).mono ?_
      rintro e w5 ⟨rfl, n5, rfl⟩
      obtain ⟨x0, x1, x2, x3, x4, xlt⟩ := X4.out
      obtain ⟨r0, r1, r2, r3, r4, rlt⟩ := R4.out
      have g0 := RS4.out 0
      have g1 := RS4.out 1
      have g2 := RS4.out 2
      have g3 := RS4.out 3
      have g4 := RS4.out 4
      have ne5 : w1.heap.size ≠ w.heap.size := by omega
      have ne6 : w.heap.size ≠ w1.heap.size := by omega
      go_wp2_with fail
      refine bodyPost_ret (v := .agg #[.int .i64 1, .string TX, .slice none 0 0, .slice none 0 0, .slice none 0 0]) (by simp [results, Try.results26, go_sem, r0, r1, r2, r3, r4]) rfl ⟨?_, fun hx => ?_, fun x hx => ?_⟩
      · exact ((((((K4.out.drewN n5).setNew (Nat.le_refl _) _).setNew (Nat.le_refl _) _).setNew (Nat.le_refl _) _).setNew (Nat.le_refl _) _).setNew (Nat.le_refl _) _)
      · rw [HP.out] at hx; cases hx
      · rw [HP.out] at hx
        injection hx with hx
        subst hx
        exact ⟨_, rfl, fun W _ => ⟨⟨none, 0, none, 0, none, 0, rfl, .inl rfl, .inl rfl, .inl rfl⟩, HSZ.out, by simp, by simp, by simp, by simp, by simp, by simp⟩⟩
    by_cases k2 : c.toNat = 2
    · have HP : Hid (pItem (c :: r) = (whole (pEach pText r)).map fun x => ⟨2, ⟨#[]⟩, x, [], []⟩) := by rw [Hid, pItem, if_neg (by omega), if_pos k2]
      rw [k2] at HN
      generalize pItem (c :: r) = PI at *
      clear hc k2
      go_enter Try.func26, Try.ntmps26
      go_wp2_with fail
      refine HN.out.mono ?_
      rintro e w1 ⟨rfl, h1, hk1⟩
      have hz1 : w.heap.size < w1.heap.size := by have := hk1.size; simp at this; omega
      have R1 := hide (RB.out.kept hk1 hne)
      have RS1 := hide (RSo.out.kept hk1 RB.out.lt hne)
      have A1 := hide (h1.alloc (.cells #[.int .i64 2, .string ⟨#[]⟩, .slice none 0 0, .slice none 0 0, .slice none 0 0] 31))
      have X1 := hide (BoxAt.new w1 (.int .i64 2) (.string ⟨#[]⟩) (.slice none 0 0) (.slice none 0 0) (.slice none 0 0) 31)
      have XS1 : Hid (SoftB (w1.alloc (.cells #[.int .i64 2, .string ⟨#[]⟩, .slice none 0 0, .slice none 0 0, .slice none 0 0] 31)) w1.heap.size) := fun j => by simp [go_sem]
      have K1 := hide ((HK.out.trans hk1).alloc (.cells #[.int .i64 2, .string ⟨#[]⟩, .slice none 0 0, .slice none 0 0, .slice none 0 0] 31))
      have R2 := hide (R1.out.alloc (.cells #[.int .i64 2, .string ⟨#[]⟩, .slice none 0 0, .slice none 0 0, .slice none 0 0] 31))
      have RS2 : Hid (SoftB (w1.alloc (.cells #[.int .i64 2, .string ⟨#[]⟩, .slice none 0 0, .slice none 0 0, .slice none 0 0] 31)) w.heap.size) := fun j => by
        have := RS1.out j
        simpa using (((Below.refl w1.heap.size w1).alloc (Nat.le_refl _) (.cells #[.int .i64 2, .string ⟨#[]⟩, .slice none 0 0, .slice none 0 0, .slice none 0 0] 31)).frozen (p := ⟨w.heap.size, j, none⟩) hz1).trans this
      have hz2 : w1.heap.size < (w1.alloc (.cells #[.int .i64 2, .string ⟨#[]⟩, .slice none 0 0, .slice none 0 0, .slice none 0 0] 31)).heap.size := by simp
      have hnx : w1.heap.size ≠ b := by omega
      clear h1 hk1 R1 RS1 HN HK RB RSo
      go_wp2_with fail
      have HE := hide (each_t b s r _ A1.out hs)
      refine HE.out.mono ?_
      rintro e w3 ⟨hk3, he1, he2⟩
      cases hp : pEach pText r with
      | none =>
        obtain rfl := he1 hp
        refine ⟨rfl, K1.out.trans hk3, fun _ => ⟨8, by decide, rfl⟩, fun x hx => ?_⟩
        rw [HP.out, hp] at hx
        cases hx
      | some y =>
        obtain ⟨xs, q⟩ := y
        obtain ⟨hA3, v3, rfl, hown⟩ := he2 xs q hp
        obtain ⟨ao, cp, rfl⟩ : ∃ ao cp, v3 = .slice ao xs.length cp := by
          rcases hown.2 with ⟨rfl, h0⟩ | ⟨g, cap, cur, rfl, _⟩
          · exact ⟨none, 0, by rw [h0]⟩
          · exact ⟨_, _, rfl⟩
        have A3 := hide hA3
        have OW := hide hown
        have HPP := hide hp
        have X3 := hide (X1.out.kept hk3 hnx)
        have XS3 := hide (XS1.out.kept hk3 hz2 hnx)
        have R3 := hide (R2.out.kept hk3 hne)
        have RS3 := hide (RS2.out.kept hk3 R2.out.lt hne)
        have K3 := hide (K1.out.trans hk3)
        have z3 := hk3.size
        simp only [World.size_alloc] at z3
        clear hA3 hown he1 he2 hp HE A1 X1 XS1 R2 RS2 K1 hk3
        obtain ⟨x0, x1, x2, x3, x4, xlt⟩ := X3.out
        have xf := XS3.out 2
        go_wp2_with fail
        have A4 := hide (A3.out.setOther (g := w1.heap.size) (o := 2) hnx (.slice ao xs.length cp))
        have K4 := hide (K3.out.setNew (g := w1.heap.size) (o := 2) (Nat.le_of_lt hz1) (.slice ao xs.length cp))
        have Q4 : Hid (Kept (one w1.heap.size) w3 (w3.setCell ⟨w1.heap.size, 2, none⟩ (.slice ao xs.length cp))) := (Kept.refl _ _).set1 _ _
        have X4 : Hid (BoxAt (w3.setCell ⟨w1.heap.size, 2, none⟩ (.slice ao xs.length cp)) w1.heap.size (.int .i64 2) (.string ⟨#[]⟩) (.slice ao xs.length cp) (.slice none 0 0) (.slice none 0 0)) := ⟨(World.cell?_setCell_other _ _ _ _ (by simp)).trans x0, (World.cell?_setCell_other _ _ _ _ (by simp)).trans x1, World.cell?_setCell_same _ _ _ x2, (World.cell?_setCell_other _ _ _ _ (by simp)).trans x3, (World.cell?_setCell_other _ _ _ _ (by simp)).trans x4, by simpa using xlt⟩
        have R4 := hide (R3.out.kept Q4.out (by omega))
        have RS4 := hide (RS3.out.kept Q4.out R3.out.lt (by omega))
        clear x0 x1 x2 x3 x4 xlt xf A3 K3 X3 XS3 R3 RS3
        generalize hW4 : World.setCell w3 _ _ = W4 at *
        clear hW4
        cases q with
        | cons c2 q2 =>
          refine (done_cons b s c2 q2 W4 A4.out).mono ?_
          rintro e w5 ⟨rfl, n5, rfl⟩
          go_wp2_with fail
          refine (giveUp_any 1 _).mono ?_
          rintro e w6 ⟨rfl, rfl⟩
          refine ⟨rfl, K4.out.drewN n5, fun _ => ⟨1, by decide, rfl⟩, fun x hx => ?_⟩
          rw [HP.out, HPP.out] at hx
          cases hx
        | nil =>
          refine (done_nil b s W4 A4.out).mono ?_
          rintro e w5 ⟨rfl, n5, rfl⟩
          obtain ⟨x0, x1, x2, x3, x4, xlt⟩ := X4.out
          obtain ⟨r0, r1, r2, r3, r4, rlt⟩ := R4.out
          have g0 := RS4.out 0
          have g1 := RS4.out 1
          have g2 := RS4.out 2
          have g3 := RS4.out 3
          have g4 := RS4.out 4
          have ne5 : w1.heap.size ≠ w.heap.size := by omega
          have ne6 : w.heap.size ≠ w1.heap.size := by omega
          go_wp2_with fail
          refine bodyPost_ret (v := .agg #[.int .i64 2, .string ⟨#[]⟩, .slice ao xs.length cp, .slice none 0 0, .slice none 0 0]) (by simp [results, Try.results26, go_sem, r0, r1, r2, r3, r4]) rfl ⟨?_, fun hx => ?_, fun x hx => ?_⟩
          · exact ((((((K4.out.drewN n5).setNew (Nat.le_refl _) _).setNew (Nat.le_refl _) _).setNew (Nat.le_refl _) _).setNew (Nat.le_refl _) _).setNew (Nat.le_refl _) _)
          · rw [HP.out, HPP.out] at hx; cases hx
          · rw [HP.out, HPP.out] at hx
            simp only [whole, Option.map_some] at hx
            injection hx with hx
            subst hx
            refine ⟨_, rfl, fun W hW => ?_⟩
            have ST : Stays (w1.alloc (.cells #[.int .i64 2, .string ⟨#[]⟩, .slice none 0 0, .slice none 0 0, .slice none 0 0] 31)).heap.size w3 W := fun g o u hg hu => by
              rw [World.size_alloc] at hg
              exact hW g o u (by omega) ((five_off _ _ _ _ _ _ _ g o (by omega)).trans (Q4.out.cell' (p := ⟨g, o, none⟩) hu (by simp only [one]; omega)))
            have hlen := pEach_len HPP.out
            exact ⟨⟨ao, cp, none, 0, none, 0, rfl, textsd_from OW.out ST, .inl rfl, .inl rfl⟩, (show (0 : Nat) ≤ maxLen by simp), (fun t ht => Nat.le_trans (pEach_all (P := fun t => t.size ≤ 255) (fun _ _ _ h => pText_size h) HPP.out t ht) (by unfold maxLen; omega)), by simp, by simp, (by simp only; omega), by simp, by simp⟩
    by_cases k3 : c.toNat = 3
    · have HP : Hid (pItem (c :: r) = (whole (pEach pText r)).map fun x => ⟨3, ⟨#[]⟩, x, [], []⟩) := by rw [Hid, pItem, if_neg (by omega), if_neg (by omega), if_pos k3]
      rw [k3] at HN
      generalize pItem (c :: r) = PI at *
      clear hc k3
      go_enter Try.func26, Try.ntmps26
      go_wp2_with fail
      refine HN.out.mono ?_
      rintro e w1 ⟨rfl, h1, hk1⟩
      have hz1 : w.heap.size < w1.heap.size := by have := hk1.size; simp at this; omega
      have R1 := hide (RB.out.kept hk1 hne)
      have RS1 := hide (RSo.out.kept hk1 RB.out.lt hne)
      have A1 := hide (h1.alloc (.cells #[.int .i64 3, .string ⟨#[]⟩, .slice none 0 0, .slice none 0 0, .slice none 0 0] 31))
      have X1 := hide (BoxAt.new w1 (.int .i64 3) (.string ⟨#[]⟩) (.slice none 0 0) (.slice none 0 0) (.slice none 0 0) 31)
      have XS1 : Hid (SoftB (w1.alloc (.cells #[.int .i64 3, .string ⟨#[]⟩, .slice none 0 0, .slice none 0 0, .slice none 0 0] 31)) w1.heap.size) := fun j => by simp [go_sem]
      have K1 := hide ((HK.out.trans hk1).alloc (.cells #[.int .i64 3, .string ⟨#[]⟩, .slice none 0 0, .slice none 0 0, .slice none 0 0] 31))
      have R2 := hide (R1.out.alloc (.cells #[.int .i64 3, .string ⟨#[]⟩, .slice none 0 0, .slice none 0 0, .slice none 0 0] 31))
      have RS2 : Hid (SoftB (w1.alloc (.cells #[.int .i64 3, .string ⟨#[]⟩, .slice none 0 0, .slice none 0 0, .slice none 0 0] 31)) w.heap.size) := fun j => by
        have := RS1.out j
        simpa using (((Below.refl w1.heap.size w1).alloc (Nat.le_refl _) (.cells #[.int .i64 3, .string ⟨#[]⟩, .slice none 0 0, .slice none 0 0, .slice none 0 0] 31)).frozen (p := ⟨w.heap.size, j, none⟩) hz1).trans this
      have hz2 : w1.heap.size < (w1.alloc (.cells #[.int .i64 3, .string ⟨#[]⟩, .slice none 0 0, .slice none 0 0, .slice none 0 0] 31)).heap.size := by simp
      have hnx : w1.heap.size ≠ b := by omega
      clear h1 hk1 R1 RS1 HN HK RB RSo
      go_wp2_with fail
      have HE := hide (each_t b s r _ A1.out hs)
      refine HE.out.mono ?_
      rintro e w3 ⟨hk3, he1, he2⟩
      cases hp : pEach pText r with
      | none =>
        obtain rfl := he1 hp
        refine ⟨rfl, K1.out.trans hk3, fun _ => ⟨8, by decide, rfl⟩, fun x hx => ?_⟩
        rw [HP.out, hp] at hx
        cases hx
      | some y =>
        obtain ⟨xs, q⟩ := y
        obtain ⟨hA3, v3, rfl, hown⟩ := he2 xs q hp
        obtain ⟨ao, cp, rfl⟩ : ∃ ao cp, v3 = .slice ao xs.length cp := by
          rcases hown.2 with ⟨rfl, h0⟩ | ⟨g, cap, cur, rfl, _⟩
          · exact ⟨none, 0, by rw [h0]⟩
          · exact ⟨_, _, rfl⟩
        have A3 := hide hA3
        have OW := hide hown
        have HPP := hide hp
        have X3 := hide (X1.out.kept hk3 hnx)
        have XS3 := hide (XS1.out.kept hk3 hz2 hnx)
        have R3 := hide (R2.out.kept hk3 hne)
        have RS3 := hide (RS2.out.kept hk3 R2.out.lt hne)
        have K3 := hide (K1.out.trans hk3)
        have z3 := hk3.size
        simp only [World.size_alloc] at z3
        clear hA3 hown he1 he2 hp HE A1 X1 XS1 R2 RS2 K1 hk3
        obtain ⟨x0, x1, x2, x3, x4, xlt⟩ := X3.out
        have xf := XS3.out 2
        go_wp2_with fail
        have A4 := hide (A3.out.setOther (g := w1.heap.size) (o := 2) hnx (.slice ao xs.length cp))
        have K4 := hide (K3.out.setNew (g := w1.heap.size) (o := 2) (Nat.le_of_lt hz1) (.slice ao xs.length cp))
        have Q4 : Hid (Kept (one w1.heap.size) w3 (w3.setCell ⟨w1.heap.size, 2, none⟩ (.slice ao xs.length cp))) := (Kept.refl _ _).set1 _ _
        have X4 : Hid (BoxAt (w3.setCell ⟨w1.heap.size, 2, none⟩ (.slice ao xs.length cp)) w1.heap.size (.int .i64 3) (.string ⟨#[]⟩) (.slice ao xs.length cp) (.slice none 0 0) (.slice none 0 0)) := ⟨(World.cell?_setCell_other _ _ _ _ (by simp)).trans x0, (World.cell?_setCell_other _ _ _ _ (by simp)).trans x1, World.cell?_setCell_same _ _ _ x2, (World.cell?_setCell_other _ _ _ _ (by simp)).trans x3, (World.cell?_setCell_other _ _ _ _ (by simp)).trans x4, by simpa using xlt⟩
        have R4 := hide (R3.out.kept Q4.out (by omega))
        have RS4 := hide (RS3.out.kept Q4.out R3.out.lt (by omega))
        clear x0 x1 x2 x3 x4 xlt xf A3 K3 X3 XS3 R3 RS3
        generalize hW4 : World.setCell w3 _ _ = W4 at *
        clear hW4
        cases q with
        | cons c2 q2 =>
          refine (done_cons b s c2 q2 W4 A4.out).mono ?_
          rintro e w5 ⟨rfl, n5, rfl⟩
          go_wp2_with fail
          refine (giveUp_any 1 _).mono ?_
          rintro e w6 ⟨rfl, rfl⟩
          refine ⟨rfl, K4.out.drewN n5, fun _ => ⟨1, by decide, rfl⟩, fun x hx => ?_⟩
          rw [HP.out, HPP.out] at hx
          cases hx
        | nil =>
          refine (done_nil b s W4 A4.out).mono ?_
          rintro e w5 ⟨rfl, n5, rfl⟩
          obtain ⟨x0, x1, x2, x3, x4, xlt⟩ := X4.out
          obtain ⟨r0, r1, r2, r3, r4, rlt⟩ := R4.out
          have g0 := RS4.out 0
          have g1 := RS4.out 1
          have g2 := RS4.out 2
          have g3 := RS4.out 3
          have g4 := RS4.out 4
          have ne5 : w1.heap.size ≠ w.heap.size := by omega
          have ne6 : w.heap.size ≠ w1.heap.size := by omega
          go_wp2_with fail
          refine bodyPost_ret (v := .agg #[.int .i64 3, .string ⟨#[]⟩, .slice ao xs.length cp, .slice none 0 0, .slice none 0 0]) (by simp [results, Try.results26, go_sem, r0, r1, r2, r3, r4]) rfl ⟨?_, fun hx => ?_, fun x hx => ?_⟩
          · exact ((((((K4.out.drewN n5).setNew (Nat.le_refl _) _).setNew (Nat.le_refl _) _).setNew (Nat.le_refl _) _).setNew (Nat.le_refl _) _).setNew (Nat.le_refl _) _)
          · rw [HP.out, HPP.out] at hx; cases hx
          · rw [HP.out, HPP.out] at hx
            simp only [whole, Option.map_some] at hx
            injection hx with hx
            subst hx
            refine ⟨_, rfl, fun W hW => ?_⟩
            have ST : Stays (w1.alloc (.cells #[.int .i64 3, .string ⟨#[]⟩, .slice none 0 0, .slice none 0 0, .slice none 0 0] 31)).heap.size w3 W := fun g o u hg hu => by
              rw [World.size_alloc] at hg
              exact hW g o u (by omega) ((five_off _ _ _ _ _ _ _ g o (by omega)).trans (Q4.out.cell' (p := ⟨g, o, none⟩) hu (by simp only [one]; omega)))
            have hlen := pEach_len HPP.out
            exact ⟨⟨ao, cp, none, 0, none, 0, rfl, textsd_from OW.out ST, .inl rfl, .inl rfl⟩, (show (0 : Nat) ≤ maxLen by simp), (fun t ht => Nat.le_trans (pEach_all (P := fun t => t.size ≤ 255) (fun _ _ _ h => pText_size h) HPP.out t ht) (by unfold maxLen; omega)), by simp, by simp, (by simp only; omega), by simp, by simp⟩
    by_cases k4 : c.toNat = 4
    · have HP : Hid (pItem (c :: r) = (whole (pEach ppair r)).map fun x => ⟨4, ⟨#[]⟩, [], x, []⟩) := by rw [Hid, pItem, if_neg (by omega), if_neg (by omega), if_neg (by omega), if_pos k4]
      rw [k4] at HN
      generalize pItem (c :: r) = PI at *
      clear hc k4
      go_enter Try.func26, Try.ntmps26
      go_wp2_with fail
      refine HN.out.mono ?_
      rintro e w1 ⟨rfl, h1, hk1⟩
      have hz1 : w.heap.size < w1.heap.size := by have := hk1.size; simp at this; omega
      have R1 := hide (RB.out.kept hk1 hne)
      have RS1 := hide (RSo.out.kept hk1 RB.out.lt hne)
      have A1 := hide (h1.alloc (.cells #[.int .i64 4, .string ⟨#[]⟩, .slice none 0 0, .slice none 0 0, .slice none 0 0] 31))
      have X1 := hide (BoxAt.new w1 (.int .i64 4) (.string ⟨#[]⟩) (.slice none 0 0) (.slice none 0 0) (.slice none 0 0) 31)
      have XS1 : Hid (SoftB (w1.alloc (.cells #[.int .i64 4, .string ⟨#[]⟩, .slice none 0 0, .slice none 0 0, .slice none 0 0] 31)) w1.heap.size) := fun j => by simp [go_sem]
      have K1 := hide ((HK.out.trans hk1).alloc (.cells #[.int .i64 4, .string ⟨#[]⟩, .slice none 0 0, .slice none 0 0, .slice none 0 0] 31))
      have R2 := hide (R1.out.alloc (.cells #[.int .i64 4, .string ⟨#[]⟩, .slice none 0 0, .slice none 0 0, .slice none 0 0] 31))
      have RS2 : Hid (SoftB (w1.alloc (.cells #[.int .i64 4, .string ⟨#[]⟩, .slice none 0 0, .slice none 0 0, .slice none 0 0] 31)) w.heap.size) := fun j => by
        have := RS1.out j
        simpa using (((Below.refl w1.heap.size w1).alloc (Nat.le_refl _) (.cells #[.int .i64 4, .string ⟨#[]⟩, .slice none 0 0, .slice none 0 0, .slice none 0 0] 31)).frozen (p := ⟨w.heap.size, j, none⟩) hz1).trans this
      have hz2 : w1.heap.size < (w1.alloc (.cells #[.int .i64 4, .string ⟨#[]⟩, .slice none 0 0, .slice none 0 0, .slice none 0 0] 31)).heap.size := by simp
      have hnx : w1.heap.size ≠ b := by omega
      clear h1 hk1 R1 RS1 HN HK RB RSo
      go_wp2_with fail
      have HE := hide (each_p b s r _ A1.out hs)
      refine HE.out.mono ?_
      rintro e w3 ⟨hk3, he1, he2⟩
      cases hp : pEach ppair r with
      | none =>
        obtain rfl := he1 hp
        refine ⟨rfl, K1.out.trans hk3, fun _ => ⟨8, by decide, rfl⟩, fun x hx => ?_⟩
        rw [HP.out, hp] at hx
        cases hx
      | some y =>
        obtain ⟨xs, q⟩ := y
        obtain ⟨hA3, v3, rfl, hown⟩ := he2 xs q hp
        obtain ⟨ao, cp, rfl⟩ : ∃ ao cp, v3 = .slice ao xs.length cp := by
          rcases hown.2 with ⟨rfl, h0⟩ | ⟨g, cap, cur, rfl, _⟩
          · exact ⟨none, 0, by rw [h0]⟩
          · exact ⟨_, _, rfl⟩
        have A3 := hide hA3
        have OW := hide hown
        have HPP := hide hp
        have X3 := hide (X1.out.kept hk3 hnx)
        have XS3 := hide (XS1.out.kept hk3 hz2 hnx)
        have R3 := hide (R2.out.kept hk3 hne)
        have RS3 := hide (RS2.out.kept hk3 R2.out.lt hne)
        have K3 := hide (K1.out.trans hk3)
        have z3 := hk3.size
        simp only [World.size_alloc] at z3
        clear hA3 hown he1 he2 hp HE A1 X1 XS1 R2 RS2 K1 hk3
        obtain ⟨x0, x1, x2, x3, x4, xlt⟩ := X3.out
        have xf := XS3.out 3
        go_wp2_with fail
        have A4 := hide (A3.out.setOther (g := w1.heap.size) (o := 3) hnx (.slice ao xs.length cp))
        have K4 := hide (K3.out.setNew (g := w1.heap.size) (o := 3) (Nat.le_of_lt hz1) (.slice ao xs.length cp))
        have Q4 : Hid (Kept (one w1.heap.size) w3 (w3.setCell ⟨w1.heap.size, 3, none⟩ (.slice ao xs.length cp))) := (Kept.refl _ _).set1 _ _
        have X4 : Hid (BoxAt (w3.setCell ⟨w1.heap.size, 3, none⟩ (.slice ao xs.length cp)) w1.heap.size (.int .i64 4) (.string ⟨#[]⟩) (.slice none 0 0) (.slice ao xs.length cp) (.slice none 0 0)) := ⟨(World.cell?_setCell_other _ _ _ _ (by simp)).trans x0, (World.cell?_setCell_other _ _ _ _ (by simp)).trans x1, (World.cell?_setCell_other _ _ _ _ (by simp)).trans x2, World.cell?_setCell_same _ _ _ x3, (World.cell?_setCell_other _ _ _ _ (by simp)).trans x4, by simpa using xlt⟩
        have R4 := hide (R3.out.kept Q4.out (by omega))
        have RS4 := hide (RS3.out.kept Q4.out R3.out.lt (by omega))
        clear x0 x1 x2 x3 x4 xlt xf A3 K3 X3 XS3 R3 RS3
        generalize hW4 : World.setCell w3 _ _ = W4 at *
        clear hW4
        cases q with
        | cons c2 q2 =>
          refine (done_cons b s c2 q2 W4 A4.out).mono ?_
          rintro e w5 ⟨rfl, n5, rfl⟩
          go_wp2_with fail
          refine (giveUp_any 1 _).mono ?_
          rintro e w6 ⟨rfl, rfl⟩
          refine ⟨rfl, K4.out.drewN n5, fun _ => ⟨1, by decide, rfl⟩, fun x hx => ?_⟩
          rw [HP.out, HPP.out] at hx
          cases hx
        | nil =>
          refine (done_nil b s W4 A4.out).mono ?_
          rintro e w5 ⟨rfl, n5, rfl⟩
          obtain ⟨x0, x1, x2, x3, x4, xlt⟩ := X4.out
          obtain ⟨r0, r1, r2, r3, r4, rlt⟩ := R4.out
          have g0 := RS4.out 0
          have g1 := RS4.out 1
          have g2 := RS4.out 2
          have g3 := RS4.out 3
          have g4 := RS4.out 4
          have ne5 : w1.heap.size ≠ w.heap.size := by omega
          have ne6 : w.heap.size ≠ w1.heap.size := by omega
          go_wp2_with fail
          refine bodyPost_ret (v := .agg #[.int .i64 4, .string ⟨#[]⟩, .slice none 0 0, .slice ao xs.length cp, .slice none 0 0]) (by simp [results, Try.results26, go_sem, r0, r1, r2, r3, r4]) rfl ⟨?_, fun hx => ?_, fun x hx => ?_⟩
          · exact ((((((K4.out.drewN n5).setNew (Nat.le_refl _) _).setNew (Nat.le_refl _) _).setNew (Nat.le_refl _) _).setNew (Nat.le_refl _) _).setNew (Nat.le_refl _) _)
          · rw [HP.out, HPP.out] at hx; cases hx
          · rw [HP.out, HPP.out] at hx
            simp only [whole, Option.map_some] at hx
            injection hx with hx
            subst hx
            refine ⟨_, rfl, fun W hW => ?_⟩
            have ST : Stays (w1.alloc (.cells #[.int .i64 4, .string ⟨#[]⟩, .slice none 0 0, .slice none 0 0, .slice none 0 0] 31)).heap.size w3 W := fun g o u hg hu => by
              rw [World.size_alloc] at hg
              exact hW g o u (by omega) ((five_off _ _ _ _ _ _ _ g o (by omega)).trans (Q4.out.cell' (p := ⟨g, o, none⟩) hu (by simp only [one]; omega)))
            have hlen := pEach_len HPP.out
            exact ⟨⟨none, 0, ao, cp, none, 0, rfl, .inl rfl, pairsd_from OW.out ST, .inl rfl⟩, (show (0 : Nat) ≤ maxLen by simp), by simp, (fun t ht => by have := pEach_all (P := fun t : ByteArray × ByteArray => t.1.size ≤ 255 ∧ t.2.size ≤ 255) (fun _ _ _ h => ppair_size h) HPP.out t ht; unfold maxLen; omega), by simp, by simp, (by simp only; omega), by simp⟩
    by_cases k5 : c.toNat = 5
    · have HP : Hid (pItem (c :: r) = (whole (pEach pscore r)).map fun x => ⟨5, ⟨#[]⟩, [], [], x⟩) := by rw [Hid, pItem, if_neg (by omega), if_neg (by omega), if_neg (by omega), if_neg (by omega), if_pos k5]
      rw [k5] at HN
      generalize pItem (c :: r) = PI at *
      clear hc k5
      go_enter Try.func26, Try.ntmps26
      go_wp2_with fail
      refine HN.out.mono ?_
      rintro e w1 ⟨rfl, h1, hk1⟩
      have hz1 : w.heap.size < w1.heap.size := by have := hk1.size; simp at this; omega
      have R1 := hide (RB.out.kept hk1 hne)
      have RS1 := hide (RSo.out.kept hk1 RB.out.lt hne)
      have A1 := hide (h1.alloc (.cells #[.int .i64 5, .string ⟨#[]⟩, .slice none 0 0, .slice none 0 0, .slice none 0 0] 31))
      have X1 := hide (BoxAt.new w1 (.int .i64 5) (.string ⟨#[]⟩) (.slice none 0 0) (.slice none 0 0) (.slice none 0 0) 31)
      have XS1 : Hid (SoftB (w1.alloc (.cells #[.int .i64 5, .string ⟨#[]⟩, .slice none 0 0, .slice none 0 0, .slice none 0 0] 31)) w1.heap.size) := fun j => by simp [go_sem]
      have K1 := hide ((HK.out.trans hk1).alloc (.cells #[.int .i64 5, .string ⟨#[]⟩, .slice none 0 0, .slice none 0 0, .slice none 0 0] 31))
      have R2 := hide (R1.out.alloc (.cells #[.int .i64 5, .string ⟨#[]⟩, .slice none 0 0, .slice none 0 0, .slice none 0 0] 31))
      have RS2 : Hid (SoftB (w1.alloc (.cells #[.int .i64 5, .string ⟨#[]⟩, .slice none 0 0, .slice none 0 0, .slice none 0 0] 31)) w.heap.size) := fun j => by
        have := RS1.out j
        simpa using (((Below.refl w1.heap.size w1).alloc (Nat.le_refl _) (.cells #[.int .i64 5, .string ⟨#[]⟩, .slice none 0 0, .slice none 0 0, .slice none 0 0] 31)).frozen (p := ⟨w.heap.size, j, none⟩) hz1).trans this
      have hz2 : w1.heap.size < (w1.alloc (.cells #[.int .i64 5, .string ⟨#[]⟩, .slice none 0 0, .slice none 0 0, .slice none 0 0] 31)).heap.size := by simp
      have hnx : w1.heap.size ≠ b := by omega
      clear h1 hk1 R1 RS1 HN HK RB RSo
      go_wp2_with fail
      have HE := hide (each_s b s r _ A1.out hs)
      refine HE.out.mono ?_
      rintro e w3 ⟨hk3, he1, he2⟩
      cases hp : pEach pscore r with
      | none =>
        obtain rfl := he1 hp
        refine ⟨rfl, K1.out.trans hk3, fun _ => ⟨8, by decide, rfl⟩, fun x hx => ?_⟩
        rw [HP.out, hp] at hx
        cases hx
      | some y =>
        obtain ⟨xs, q⟩ := y
        obtain ⟨hA3, v3, rfl, hown⟩ := he2 xs q hp
        obtain ⟨ao, cp, rfl⟩ : ∃ ao cp, v3 = .slice ao xs.length cp := by
          rcases hown.2 with ⟨rfl, h0⟩ | ⟨g, cap, cur, rfl, _⟩
          · exact ⟨none, 0, by rw [h0]⟩
          · exact ⟨_, _, rfl⟩
        have A3 := hide hA3
        have OW := hide hown
        have HPP := hide hp
        have X3 := hide (X1.out.kept hk3 hnx)
        have XS3 := hide (XS1.out.kept hk3 hz2 hnx)
        have R3 := hide (R2.out.kept hk3 hne)
        have RS3 := hide (RS2.out.kept hk3 R2.out.lt hne)
        have K3 := hide (K1.out.trans hk3)
        have z3 := hk3.size
        simp only [World.size_alloc] at z3
        clear hA3 hown he1 he2 hp HE A1 X1 XS1 R2 RS2 K1 hk3
        obtain ⟨x0, x1, x2, x3, x4, xlt⟩ := X3.out
        have xf := XS3.out 4
        go_wp2_with fail
        have A4 := hide (A3.out.setOther (g := w1.heap.size) (o := 4) hnx (.slice ao xs.length cp))
        have K4 := hide (K3.out.setNew (g := w1.heap.size) (o := 4) (Nat.le_of_lt hz1) (.slice ao xs.length cp))
        have Q4 : Hid (Kept (one w1.heap.size) w3 (w3.setCell ⟨w1.heap.size, 4, none⟩ (.slice ao xs.length cp))) := (Kept.refl _ _).set1 _ _
        have X4 : Hid (BoxAt (w3.setCell ⟨w1.heap.size, 4, none⟩ (.slice ao xs.length cp)) w1.heap.size (.int .i64 5) (.string ⟨#[]⟩) (.slice none 0 0) (.slice none 0 0) (.slice ao xs.length cp)) := ⟨(World.cell?_setCell_other _ _ _ _ (by simp)).trans x0, (World.cell?_setCell_other _ _ _ _ (by simp)).trans x1, (World.cell?_setCell_other _ _ _ _ (by simp)).trans x2, (World.cell?_setCell_other _ _ _ _ (by simp)).trans x3, World.cell?_setCell_same _ _ _ x4, by simpa using xlt⟩
        have R4 := hide (R3.out.kept Q4.out (by omega))
        have RS4 := hide (RS3.out.kept Q4.out R3.out.lt (by omega))
        clear x0 x1 x2 x3 x4 xlt xf A3 K3 X3 XS3 R3 RS3
        generalize hW4 : World.setCell w3 _ _ = W4 at *
        clear hW4
        cases q with
        | cons c2 q2 =>
          refine (done_cons b s c2 q2 W4 A4.out).mono ?_
          rintro e w5 ⟨rfl, n5, rfl⟩
          go_wp2_with fail
          refine (giveUp_any 1 _).mono ?_
          rintro e w6 ⟨rfl, rfl⟩
          refine ⟨rfl, K4.out.drewN n5, fun _ => ⟨1, by decide, rfl⟩, fun x hx => ?_⟩
          rw [HP.out, HPP.out] at hx
          cases hx
        | nil =>
          refine (done_nil b s W4 A4.out).mono ?_
          rintro e w5 ⟨rfl, n5, rfl⟩
          obtain ⟨x0, x1, x2, x3, x4, xlt⟩ := X4.out
          obtain ⟨r0, r1, r2, r3, r4, rlt⟩ := R4.out
          have g0 := RS4.out 0
          have g1 := RS4.out 1
          have g2 := RS4.out 2
          have g3 := RS4.out 3
          have g4 := RS4.out 4
          have ne5 : w1.heap.size ≠ w.heap.size := by omega
          have ne6 : w.heap.size ≠ w1.heap.size := by omega
          go_wp2_with fail
          refine bodyPost_ret (v := .agg #[.int .i64 5, .string ⟨#[]⟩, .slice none 0 0, .slice none 0 0, .slice ao xs.length cp]) (by simp [results, Try.results26, go_sem, r0, r1, r2, r3, r4]) rfl ⟨?_, fun hx => ?_, fun x hx => ?_⟩
          · exact ((((((K4.out.drewN n5).setNew (Nat.le_refl _) _).setNew (Nat.le_refl _) _).setNew (Nat.le_refl _) _).setNew (Nat.le_refl _) _).setNew (Nat.le_refl _) _)
          · rw [HP.out, HPP.out] at hx; cases hx
          · rw [HP.out, HPP.out] at hx
            simp only [whole, Option.map_some] at hx
            injection hx with hx
            subst hx
            refine ⟨_, rfl, fun W hW => ?_⟩
            have ST : Stays (w1.alloc (.cells #[.int .i64 5, .string ⟨#[]⟩, .slice none 0 0, .slice none 0 0, .slice none 0 0] 31)).heap.size w3 W := fun g o u hg hu => by
              rw [World.size_alloc] at hg
              exact hW g o u (by omega) ((five_off _ _ _ _ _ _ _ g o (by omega)).trans (Q4.out.cell' (p := ⟨g, o, none⟩) hu (by simp only [one]; omega)))
            have hlen := pEach_len HPP.out
            exact ⟨⟨none, 0, none, 0, ao, cp, rfl, .inl rfl, .inl rfl, scoresd_from OW.out ST⟩, (show (0 : Nat) ≤ maxLen by simp), by simp, by simp, (fun t ht => by have := pEach_all (P := fun t : Int × ByteArray => t.2.size ≤ 255) (fun _ _ _ h => pscore_size h) HPP.out t ht; unfold maxLen; omega), by simp, by simp, (by simp only; omega)⟩
    have HP : Hid (pItem (c :: r) = none) := by rw [Hid, pItem, if_neg k1, if_neg k2, if_neg k3, if_neg k4, if_neg k5]
    generalize pItem (c :: r) = PI at *
    go_enter Try.func26, Try.ntmps26
    go_wp2_with fail
    refine HN.out.mono ?_
    rintro e w1 ⟨rfl, h1, hk1⟩
    have hz1 : w.heap.size < w1.heap.size := by have := hk1.size; simp at this; omega
    have R1 := hide (RB.out.kept hk1 hne)
    have RS1 := hide (RSo.out.kept hk1 RB.out.lt hne)
    have A1 := hide (h1.alloc (.cells #[.int .i64 ((c.toNat : Nat) : Int), .string ⟨#[]⟩, .slice none 0 0, .slice none 0 0, .slice none 0 0] 31))
    have X1 := hide (BoxAt.new w1 (.int .i64 ((c.toNat : Nat) : Int)) (.string ⟨#[]⟩) (.slice none 0 0) (.slice none 0 0) (.slice none 0 0) 31)
    have XS1 : Hid (SoftB (w1.alloc (.cells #[.int .i64 ((c.toNat : Nat) : Int), .string ⟨#[]⟩, .slice none 0 0, .slice none 0 0, .slice none 0 0] 31)) w1.heap.size) := fun j => by simp [go_sem]
    have K1 := hide ((HK.out.trans hk1).alloc (.cells #[.int .i64 ((c.toNat : Nat) : Int), .string ⟨#[]⟩, .slice none 0 0, .slice none 0 0, .slice none 0 0] 31))
    have R2 := hide (R1.out.alloc (.cells #[.int .i64 ((c.toNat : Nat) : Int), .string ⟨#[]⟩, .slice none 0 0, .slice none 0 0, .slice none 0 0] 31))
    have RS2 : Hid (SoftB (w1.alloc (.cells #[.int .i64 ((c.toNat : Nat) : Int), .string ⟨#[]⟩, .slice none 0 0, .slice none 0 0, .slice none 0 0] 31)) w.heap.size) := fun j => by
      have := RS1.out j
      simpa using (((Below.refl w1.heap.size w1).alloc (Nat.le_refl _) (.cells #[.int .i64 ((c.toNat : Nat) : Int), .string ⟨#[]⟩, .slice none 0 0, .slice none 0 0, .slice none 0 0] 31)).frozen (p := ⟨w.heap.size, j, none⟩) hz1).trans this
    have hz2 : w1.heap.size < (w1.alloc (.cells #[.int .i64 ((c.toNat : Nat) : Int), .string ⟨#[]⟩, .slice none 0 0, .slice none 0 0, .slice none 0 0] 31)).heap.size := by simp
    have hnx : w1.heap.size ≠ b := by omega
    clear h1 hk1 R1 RS1 HN HK RB RSo
    have e1 : (((c.toNat : Nat) : Int) == 1) = false := by rw [beq_eq_false_iff_ne]; omega
    have e2 : (((c.toNat : Nat) : Int) == 2) = false := by rw [beq_eq_false_iff_ne]; omega
    have e3 : (((c.toNat : Nat) : Int) == 3) = false := by rw [beq_eq_false_iff_ne]; omega
    have e4 : (((c.toNat : Nat) : Int) == 4) = false := by rw [beq_eq_false_iff_ne]; omega
    have e5 : (((c.toNat : Nat) : Int) == 5) = false := by rw [beq_eq_false_iff_ne]; omega
    have hc' : ((c.toNat : Nat) : Int) ≤ 255 := by omega
    go_wp2_with fail
    refine (giveUp_any 1 _).mono ?_
    rintro e w6 ⟨rfl, rfl⟩
    refine ⟨rfl, K1.out, fun _ => ⟨1, by decide, rfl⟩, fun x hx => ?_⟩
    rw [HP.out] at hx
    cases hx
end Go.Proofs.Ytolpmaapdkhigab
