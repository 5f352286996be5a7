/- WALK of the decoding of items. -/
import Derived.Test.YtolpmaapdkhigabIDec9
import Derived.Test.YtolpmaapdkhigabIChk11
import Derived.Handy
namespace Go.Proofs.Ytolpmaapdkhigab
open Go.RowKit

/-- what decoding answers -/
def decE (l : List UInt8) : Int := match pItem l with
  | none => 1
  | some x => chkI x
def decI (l : List UInt8) : Itm := match pItem l with
  | none => Itm.none
  | some x => if chkI x = 0 then x else Itm.none
theorem zero_isd (w : World) : ItemIs w (.agg #[.int .i64 0, .string ⟨#[]⟩, .slice none 0 0, .slice none 0 0, .slice none 0 0]) Itm.none :=
  ⟨⟨none, 0, none, 0, none, 0, rfl, .inl rfl, .inl rfl, .inl rfl⟩, (show (0 : Nat) ≤ maxLen by simp), by simp [Itm.none], by simp [Itm.none], by simp [Itm.none], by simp [Itm.none], by simp [Itm.none], by simp [Itm.none]⟩
/-- the world in which Decode runs its reading -/
theorem begin_dec (s : ByteArray) (w W : World) (hW : W = ((w.alloc (.cells #[.string s] 9)).alloc (.cells #[.int .i64 0, .string ⟨#[]⟩, .slice none 0 0, .slice none 0 0, .slice none 0 0] 31)).alloc (.cells #[.int .i64 0, .string ⟨#[]⟩, .slice none 0 0, .slice none 0 0, .slice none 0 0] 31)) :
    W.cell? ⟨w.heap.size, 0, none⟩ = some (.string s) ∧ BoxAt W (w.heap.size + 1) (.int .i64 0) (.string ⟨#[]⟩) (.slice none 0 0) (.slice none 0 0) (.slice none 0 0) ∧ BoxAt W (w.heap.size + 2) (.int .i64 0) (.string ⟨#[]⟩) (.slice none 0 0) (.slice none 0 0) (.slice none 0 0) ∧ SoftB W (w.heap.size + 1) ∧ SoftB W (w.heap.size + 2) ∧ W.heap.size = w.heap.size + 3 ∧ Below w.heap.size w W := by
  subst hW
  refine ⟨by simp [go_sem], ⟨by simp [go_sem], by simp [go_sem], by simp [go_sem], by simp [go_sem], by simp [go_sem], by simp⟩, ⟨by simp [go_sem], by simp [go_sem], by simp [go_sem], by simp [go_sem], by simp [go_sem], by simp⟩, fun j => by simp [go_sem], fun j => by simp [go_sem], by simp, ?_⟩
  exact (((Below.refl _ w).alloc (Nat.le_refl _) _).alloc (by simp) _).alloc (by simp; omega) _
set_option maxRecDepth 100000 in
set_option maxHeartbeats 4000000 in
theorem decode_any (s : ByteArray) (w : World) (hs : s.size ≤ 281474976710656) :
    Calls Try.prog 9 #[.string s] w fun e w' => ∃ u, e = .returned (.tuple #[u, .int .i64 (decE s.data.toList)]) ∧ (∀ W, Stays w.heap.size w' W → ItemIs W u (decI s.data.toList)) ∧ Below w.heap.size w w' := by
  have hmf : ∀ (fn : Fn) (first cap : Array Value) (w : World), (Instr.makeFunc fn first cap).run Try.prog w = .ok (.func fn first cap) w := fun _ _ _ _ => rfl
  cases hp : pItem s.data.toList with
  | none =>
    rw [show decE s.data.toList = 1 by rw [decE, hp], show decI s.data.toList = Itm.none by rw [decI, hp]]
    have HPP := hide hp
    clear hp
    go_enter Try.func9, Try.ntmps9
    go_wp2_with fail
    generalize hW : World.alloc _ _ = W
    obtain ⟨b1, b2, b3, b4, b5, b6, b7⟩ := begin_dec s w W (by rw [← hW])
    have HD := hide (dec1_any w.heap.size (w.heap.size + 2) s (W.alloc (.cells #[.int .i64 0] 23)) (((Kept.refl (fun _ => False) W).alloc _).cell' b1 (fun e => e)) (b3.alloc _) (fun j => (((Below.refl W.heap.size W).alloc (Nat.le_refl _) _).frozen (p := ⟨w.heap.size + 2, j, none⟩) b3.lt).trans (b5 j)) hs)
    clear hW
    refine (runDec_err _ (one (w.heap.size + 2)) (fun _ => True) W (by simp only [one]; omega) (HD.out.mono ?_)).mono ?_
    · rintro e w1 ⟨hk, h1, -⟩
      obtain ⟨n, hn, rfl⟩ := h1 HPP.out
      exact ⟨n, hn, rfl, hk, trivial⟩
    · rintro e w2 ⟨⟨n, hn, rfl⟩, w1, -, k1, k2⟩
      have hn0 : (n == 0) = false := by rw [beq_eq_false_iff_ne]; exact hn
      have z1 := k1.size
      have R1 := b2.kept k1 (by omega)
      have R2 := R1.kept k2 (by omega)
      have RS2 := ((b4.kept k1 b2.lt (by omega)).kept k2 R1.lt (by omega))
      have hb2 : Below w.heap.size w w2 := b7.trans ((k1.below (by omega) (fun j e => by simp only [one] at e; omega)).trans (k2.below (by omega) (fun j e => by simp only [one] at e; omega)))
      obtain ⟨r0, r1, r2, r3, r4, rlt⟩ := R2
      have g0 := RS2 0
      have g1 := RS2 1
      have g2 := RS2 2
      have g3 := RS2 3
      have g4 := RS2 4
      clear HD b1 b2 b3 b4 b5 b6 b7 k1 k2 R1 RS2
      go_wp2_with fail
      refine bodyPost_ret (v := .tuple #[.agg #[.int .i64 0, .string ⟨#[]⟩, .slice none 0 0, .slice none 0 0, .slice none 0 0], .int .i64 1]) (by simp [results, Try.results9, go_sem, r0, r1, r2, r3, r4]) rfl ⟨_, rfl, fun W' _ => zero_isd W', ?_⟩
      go_grown
  | some x =>
    obtain ⟨E, hE⟩ : ∃ E, E = chkI x := ⟨_, rfl⟩
    obtain ⟨RI, hRI⟩ : ∃ RI, RI = if chkI x = 0 then x else Itm.none := ⟨_, rfl⟩
    rw [show decE s.data.toList = E by rw [decE, hp, hE], show decI s.data.toList = RI by rw [decI, hp, hRI]]
    have HR0 : Hid (E = 0 → RI = x) := fun h => by rw [hRI, if_pos (by rw [← hE]; exact h)]
    have HRn : Hid (E ≠ 0 → RI = Itm.none) := fun h => by rw [hRI, if_neg (by rw [← hE]; exact h)]
    have HCE := hide hE
    have HPP := hide hp
    clear hp hE hRI
    go_enter Try.func9, Try.ntmps9
    go_wp2_with fail
    generalize hW : World.alloc _ _ = W
    obtain ⟨b1, b2, b3, b4, b5, b6, b7⟩ := begin_dec s w W (by rw [← hW])
    have HD := hide (dec1_any w.heap.size (w.heap.size + 2) s (W.alloc (.cells #[.int .i64 0] 23)) (((Kept.refl (fun _ => False) W).alloc _).cell' b1 (fun e => e)) (b3.alloc _) (fun j => (((Below.refl W.heap.size W).alloc (Nat.le_refl _) _).frozen (p := ⟨w.heap.size + 2, j, none⟩) b3.lt).trans (b5 j)) hs)
    clear hW
    refine (runDec_ok _ (one (w.heap.size + 2)) (ReadIn ((W.alloc (.cells #[.int .i64 0] 23)).heap.size + 2) (w.heap.size + 2) x) W (by simp only [one]; omega) (HD.out.mono ?_)).mono ?_
    · rintro e w1 ⟨hk, -, h2⟩
      obtain ⟨rfl, hr⟩ := h2 x HPP.out
      exact ⟨rfl, hk, hr⟩
    · rintro e w2 ⟨rfl, w1, ⟨k, t, a1, n1, c1, a2, n2, c2, a3, n3, c3, hX, hI⟩, k1, k2⟩
      have z1 := k1.size
      have R1 := b2.kept k1 (by omega)
      have R2 := hide (R1.kept k2 (by omega))
      have RS2 := hide ((b4.kept k1 b2.lt (by omega)).kept k2 R1.lt (by omega))
      have X2 := hide (hX.kept k2 (by omega))
      have hb2 : Below w.heap.size w w2 := b7.trans ((k1.below (by omega) (fun j e => by simp only [one] at e; omega)).trans (k2.below (by omega) (fun j e => by simp only [one] at e; omega)))
      have I2 : Hid (∀ W', Stays (w.heap.size + 3) w2 W' → ItemIs W' (.agg #[.int .i64 k, .string t, .slice a1 n1 c1, .slice a2 n2 c2, .slice a3 n3 c3]) x) := fun W' hW' => hI W' (fun g o u hg hu => by
        rw [World.size_alloc] at hg
        exact hW' g o u (by omega) (k2.cell' (p := ⟨g, o, none⟩) hu (by simp only [one]; omega)))
      have HC := hide (check_any _ x w2 (I2.out w2 (fun _ _ _ _ h => h)))
      rw [← HCE.out] at HC
      clear HD b1 b2 b3 b4 b5 b6 b7 k1 k2 R1 hX hI
      obtain ⟨x0, x1, x2, x3, x4, xlt⟩ := X2.out
      go_wp2_with fail
      refine HC.out.mono ?_
      rintro e w3 ⟨rfl, hb3⟩
      have z3 := hb3.size
      have hb3' : Below w.heap.size w w3 := hb2.trans (hb3.mono hb2.size)
      have R3 := R2.out.below hb3
      have RS3 : SoftB w3 (w.heap.size + 1) := fun j => (hb3.frozen (p := ⟨w.heap.size + 1, j, none⟩) R2.out.lt).trans (RS2.out j)
      obtain ⟨r0, r1, r2, r3, r4, rlt⟩ := R3
      have g0 := RS3 0
      have g1 := RS3 1
      have g2 := RS3 2
      have g3 := RS3 3
      have g4 := RS3 4
      have I3 : Hid (∀ W', Stays (w.heap.size + 3) w3 W' → ItemIs W' (.agg #[.int .i64 k, .string t, .slice a1 n1 c1, .slice a2 n2 c2, .slice a3 n3 c3]) x) := fun W' hW' => I2.out W' (fun g o u hg hu => hW' g o u hg ((hb3.cell (p := ⟨g, o, none⟩) (World.block_lt_of_cell? _ _ hu)).trans hu))
      have X3 := hide (X2.out.below hb3)
      clear x0 x1 x2 x3 x4 xlt HC RS3 I2 X2 R2 RS2 hb3 hb2
      clear HCE HPP
      by_cases h0 : E = 0
      · have HRX := hide (HR0.out h0)
        clear HR0 HRn
        subst h0
        obtain ⟨x0, x1, x2, x3, x4, xlt⟩ := X3.out
        have ne5 : w.heap.size + 2 ≠ w.heap.size + 1 := by omega
        have ne6 : w.heap.size + 1 ≠ w.heap.size + 2 := by omega
        go_wp2_with fail
        refine bodyPost_ret (v := .tuple #[.agg #[.int .i64 k, .string t, .slice a1 n1 c1, .slice a2 n2 c2, .slice a3 n3 c3], .int .i64 0]) (by simp [results, Try.results9, go_sem, r0, r1, r2, r3, r4]) rfl ⟨_, rfl, fun W' hW' => ?_, ?_⟩
        · rw [HRX.out]
          exact I3.out W' (fun g o u hg hu => hW' g o u (by omega) ((five_off _ _ _ _ _ _ _ g o (by omega)).trans hu))
        · clear X3 I3
          go_grown
      · have HRX := hide (HRn.out h0)
        have h0' : (E == 0) = false := by rw [beq_eq_false_iff_ne]; exact h0
        clear X3 I3 HR0 HRn
        go_wp2_with fail
        refine bodyPost_ret (v := .tuple #[.agg #[.int .i64 0, .string ⟨#[]⟩, .slice none 0 0, .slice none 0 0, .slice none 0 0], .int .i64 E]) (by simp [results, Try.results9, go_sem, r0, r1, r2, r3, r4]) rfl ⟨_, rfl, fun W' _ => by rw [HRX.out]; exact zero_isd W', ?_⟩
        go_grown
end Go.Proofs.Ytolpmaapdkhigab
