/- WALK of the function literal of Decode. -/
import Derived.Test.YtolpmaapdkhigabIDec8
import Derived.Test.YtolpmaapdkhigabIRun
import Derived.Handy
namespace Go.Proofs.Ytolpmaapdkhigab
open Go.RowKit

theorem overD_any (s : ByteArray) (w : World) :
    Calls Try.prog 27 #[.string s] w fun e w' => e = .returned (.pointer (some ⟨w.heap.size, 0, none⟩)) ∧ w' = w.alloc (.cells #[.string s, .int .i64 0] 104) := by
  go_enter Try.func27, Try.ntmps27
  go_wp2
  go_ret
  exact ⟨rfl, rfl⟩
theorem over_at (s : ByteArray) (w : World) (hs : s.size ≤ maxLen) : AtL w.heap.size s s.data.toList (w.alloc (.cells #[.string s, .int .i64 0] 104)) :=
  ⟨⟨by simp [go_sem], by rw [size_list, Nat.sub_self]; simp [go_sem], by simp [go_sem], by omega, hs⟩, List.suffix_refl _⟩
theorem ItemIs.shaped {w : World} {v : Value} {x : Itm} (h : ItemIs w v x) : ∃ k t a1 n1 c1 a2 n2 c2 a3 n3 c3, v = .agg #[.int .i64 k, .string t, .slice a1 n1 c1, .slice a2 n2 c2, .slice a3 n3 c3] := by
  obtain ⟨⟨a1, c1, a2, c2, a3, c3, e, -, -, -⟩, -, -, -, -, -, -, -⟩ := h
  exact ⟨_, _, _, _, _, _, _, _, _, _, _, e⟩
theorem five_box {w : World} {b : Nat} {u0 u1 u2 u3 u4 : Value} (v0 v1 v2 v3 v4 : Value) (h : BoxAt w b u0 u1 u2 u3 u4) : BoxAt (((((w.setCell ⟨b, 0, none⟩ v0).setCell ⟨b, 1, none⟩ v1).setCell ⟨b, 2, none⟩ v2).setCell ⟨b, 3, none⟩ v3).setCell ⟨b, 4, none⟩ v4) b v0 v1 v2 v3 v4 := by
  have h0 := h.c0
  have h1 := h.c1
  have h2 := h.c2
  have h3 := h.c3
  have h4 := h.c4
  have hl := h.lt
  exact ⟨by simp [go_sem, h0], by simp [go_sem, h1], by simp [go_sem, h2], by simp [go_sem, h3], by simp [go_sem, h4], by simpa using hl⟩
/-- what is read lies in a box -/
def ReadIn (B xb : Nat) (x : Itm) (w : World) : Prop := ∃ k t a1 n1 c1 a2 n2 c2 a3 n3 c3, BoxAt w xb (.int .i64 k) (.string t) (.slice a1 n1 c1) (.slice a2 n2 c2) (.slice a3 n3 c3) ∧ ∀ W, Stays B w W → ItemIs W (.agg #[.int .i64 k, .string t, .slice a1 n1 c1, .slice a2 n2 c2, .slice a3 n3 c3]) x
set_option maxRecDepth 100000 in
set_option maxHeartbeats 2000000 in
theorem dec1_any (sb xb : Nat) (s : ByteArray) (w : World) (hsb : w.cell? ⟨sb, 0, none⟩ = some (.string s)) (hx : BoxAt w xb (.int .i64 0) (.string ⟨#[]⟩) (.slice none 0 0) (.slice none 0 0) (.slice none 0 0)) (hxs : SoftB w xb) (hs : s.size ≤ 281474976710656) :
    Calls Try.prog 25 #[.pointer (some ⟨sb, 0, none⟩), .pointer (some ⟨xb, 0, none⟩)] w fun e w' => Kept (one xb) w w' ∧ (pItem s.data.toList = none → ∃ n : Int, n ≠ 0 ∧ e = .panicked [{ v := .iface 92 (.agg #[.int .i64 (n)]), recovered := false }]) ∧ ∀ x, pItem s.data.toList = some x → e = .returned (.tuple #[]) ∧ ReadIn (w.heap.size + 2) xb x w' := by
  have HD := hide (decAll_any w.heap.size s s.data.toList _ (over_at s w (by unfold maxLen; omega)) hs)
  have hxl := hx.lt
  have HX := hide hx
  have HXS := hide hxs
  clear hx hxs
  go_enter Try.func25, Try.ntmps25
  go_wp2_with fail
  refine (overD_any s w).mono ?_
  rintro e w1 ⟨rfl, rfl⟩
  go_wp2_with fail
  refine HD.out.mono ?_
  rintro e w2 ⟨hk2, he1, he2⟩
  have K2 : Kept (one xb) w w2 := ((Kept.refl (one w.heap.size) w).alloc _).trans hk2 |>.mono (fun k hk e => by simp only [one] at e; omega)
  have X2 := hide ((HX.out.alloc (.cells #[.string s, .int .i64 0] 104)).kept hk2 (by omega))
  have XS2 : Hid (SoftB w2 xb) := fun j => (hk2.frozen (p := ⟨xb, j, none⟩) (by simp; omega) (by simp only [one]; omega)).trans ((((Below.refl w.heap.size w).alloc (Nat.le_refl _) (.cells #[.string s, .int .i64 0] 104)).frozen (p := ⟨xb, j, none⟩) hxl).trans (HXS.out j))
  cases hp : pItem s.data.toList with
  | none =>
    obtain ⟨n, hn, rfl⟩ := he1 hp
    exact ⟨rfl, K2, fun _ => ⟨n, hn, rfl⟩, fun x hx => by rw [hp] at hx; cases hx⟩
  | some x =>
    obtain ⟨v, rfl, hI⟩ := he2 x hp
    have HI := hide hI
    have HPP := hide hp
    obtain ⟨k, t, a1, n1, c1, a2, n2, c2, a3, n3, c3, rfl⟩ := (hI w2 (fun _ _ _ _ h => h)).shaped
    obtain ⟨x0, x1, x2, x3, x4, xlt⟩ := X2.out
    have g0 := XS2.out 0
    have g1 := XS2.out 1
    have g2 := XS2.out 2
    have g3 := XS2.out 3
    have g4 := XS2.out 4
    clear hI he1 he2 hp hk2
    go_wp2_with fail
    go_end0
    refine ⟨?_, (fun hx => by rw [HPP.out] at hx; cases hx), fun y hy => ⟨rfl, ?_⟩⟩
    · exact ((((K2.set1 _ _).set1 _ _).set1 _ _).set1 _ _).set1 _ _
    · rw [HPP.out] at hy
      injection hy with hy
      subst hy
      refine ⟨k, t, a1, n1, c1, a2, n2, c2, a3, n3, c3, five_box _ _ _ _ _ X2.out, fun W hW => HI.out W (fun g o u hg hu => ?_)⟩
      rw [World.size_alloc] at hg
      exact hW g o u hg ((five_off _ _ _ _ _ _ _ g o (by omega)).trans hu)
end Go.Proofs.Ytolpmaapdkhigab
