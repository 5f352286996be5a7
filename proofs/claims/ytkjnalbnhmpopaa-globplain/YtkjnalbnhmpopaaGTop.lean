/- WALK of the reading of a pattern, whole. -/
import Derived.Test.YtkjnalbnhmpopaaGParse
import Derived.Handy
namespace Go.Proofs.Ytkjnalbnhmpopaa
open Go.RowKit

theorem pSpan_code {c : UInt8} {l : List UInt8} {n : Nat} (h : pSpan c l = .error n) : n = 1 ∨ n = 8 := by
  unfold pSpan at h
  split at h
  · split at h
    · simp at h
    · split at h
      · simp at h
      · simp at h; omega
  · simp at h
theorem pClsF_code : ∀ (f : Nat) (l : List UInt8) (n : Nat), pClsF f l = .error n → n = 1 ∨ n = 8
  | 0, _, n, h => by simp [pClsF] at h; omega
  | _ + 1, [], n, h => by simp [pClsF] at h; omega
  | f + 1, c :: l, n, h => by
    rw [pClsF] at h
    split at h
    · simp at h
    · split at h
      · rename_i e he; simp at h; subst h; exact pSpan_code he
      · split at h
        · rename_i e he; simp at h; subst h; exact pClsF_code f _ _ he
        · simp at h
theorem pPart_code {l : List UInt8} {n : Nat} (h : pPart l = .error n) : n = 1 ∨ n = 8 := by
  cases l with
  | nil => simp [pPart] at h; omega
  | cons c l =>
    rw [pPart] at h
    split at h
    · simp at h
    · split at h
      · simp at h
      · split at h
        · unfold pBracket at h
          split at h
          · rename_i e he; simp at h; subst h; exact pClsF_code _ _ _ he
          · simp at h; omega
          · simp at h
        · split at h
          · cases l with
            | nil => simp [pEsc] at h; omega
            | cons d r => simp [pEsc] at h
          · simp at h
theorem pPartsF_code : ∀ (f : Nat) (l : List UInt8) (n : Nat), pPartsF f l = .error n → n = 1 ∨ n = 8
  | f, [], n, h => by rw [pPartsF] at h; simp at h
  | 0, c :: l, n, h => by rw [pPartsF] at h; simp at h; omega
  | f + 1, c :: l, n, h => by
    rw [pPartsF] at h
    split at h
    · rename_i e he; simp at h; subst h; exact pPart_code he
    · split at h
      · rename_i e he; simp at h; subst h; exact pPartsF_code f _ _ he
      · simp at h
theorem PartsAt.kept {base base2 : Nat} {w w' : World} {V : Value} {ps : List (Value × Part)} (h : PartsAt base w V ps) {S : Nat → Prop} (hk : Kept S w w') (hb : base2 ≤ base) (hS : ∀ k, S k → k < base) : PartsAt base2 w' V ps :=
  ⟨ownsRow_low2 (hk.owns h.row (fun j hj e => by have := (h.row.lt j hj).1; have := hS j e; omega)) hb, fun x hx => (h.fns x hx).kept hk hb (fun k cs T hk _ _ e => by have := hS k e; omega)⟩

theorem overG_any (s : ByteArray) (w : World) :
    Calls Try.prog 69 #[.string s] w fun e w' => e = .returned (.pointer (some ⟨w.heap.size, 0, none⟩)) ∧ w' = w.alloc (.cells #[.string s, .int .i64 0] 113) := by
  go_enter Try.func69, Try.ntmps69
  go_wp2
  go_ret
  exact ⟨rfl, rfl⟩
/-- the world in which the reading begins -/
theorem begin4 (s : ByteArray) (hs : s.size ≤ 60) (w : World) (W : World) (hW : W = (((w.alloc (.cells #[.slice none 0 0] 60)).alloc (.cells #[.string s, .int .i64 0] 113)).alloc (.cells #[.pointer (some ⟨(w.heap.size + 1), 0, none⟩)] 90))) (o : Obj) :
    AtL (w.heap.size + 1) s s.data.toList (W.alloc o) ∧ (W.alloc o).heap[w.heap.size + 2]? = some (.cells #[.pointer (some ⟨(w.heap.size + 1), 0, none⟩)] 90) ∧ (W.alloc o).heap[w.heap.size]? = some (.cells #[.slice none 0 0] 60) ∧ (W.alloc o).heap.size = w.heap.size + 4 ∧ W.heap.size = w.heap.size + 3 ∧ Below w.heap.size w W := by
  subst hW
  have e1 : (w.alloc (.cells #[.slice none 0 0] 60)).heap.size = w.heap.size + 1 := by simp
  have h1 := heap_alloc_new (w.alloc (.cells #[.slice none 0 0] 60)) (.cells #[.string s, .int .i64 0] 113)
  rw [e1] at h1
  have e2 : ((w.alloc (.cells #[.slice none 0 0] 60)).alloc (.cells #[.string s, .int .i64 0] 113)).heap.size = w.heap.size + 2 := by simp
  have h2 := heap_alloc_new ((w.alloc (.cells #[.slice none 0 0] 60)).alloc (.cells #[.string s, .int .i64 0] 113)) (.cells #[.pointer (some ⟨(w.heap.size + 1), 0, none⟩)] 90)
  rw [e2] at h2
  have h1' : ((((w.alloc (.cells #[.slice none 0 0] 60)).alloc (.cells #[.string s, .int .i64 0] 113)).alloc (.cells #[.pointer (some ⟨(w.heap.size + 1), 0, none⟩)] 90)).alloc o).heap[w.heap.size + 1]? = some (.cells #[.string s, .int .i64 0] 113) := (Below.heap_alloc _ _ _ (by simp)).trans ((Below.heap_alloc _ _ _ (by simp)).trans h1)
  obtain ⟨c0, c1, _, f1⟩ := two_of h1'
  refine ⟨⟨⟨c0, ?_, f1, by omega, by unfold maxLen; omega⟩, List.suffix_refl _⟩, (Below.heap_alloc _ _ _ (by simp)).trans h2, (Below.heap_alloc _ _ _ (by simp; omega)).trans ((Below.heap_alloc _ _ _ (by simp; omega)).trans ((Below.heap_alloc _ _ _ (by simp)).trans (heap_alloc_new w _))), by simp, by simp, (((Below.refl _ w).alloc (Nat.le_refl _) _).alloc (by simp) _).alloc (by simp; omega) _⟩
  rw [c1, size_list, Nat.sub_self]
  rfl

def ParsePost (s : ByteArray) (w : World) (e : Ending) (w' : World) : Prop :=
  Below w.heap.size w w' ∧ (∀ ps, pParts s.data.toList = .ok ps → ∃ a cap acc, acc.map Prod.snd = ps ∧ e = .returned (.tuple #[.slice a acc.length cap, .int .i64 0]) ∧ PartsAt w.heap.size w' (.slice a acc.length cap) acc ∧ acc.length ≤ 60) ∧
    (∀ n, pParts s.data.toList = .error n → e = .returned (.tuple #[.slice none 0 0, .int .i64 1]))

set_option maxRecDepth 100000 in
set_option maxHeartbeats 2000000 in
theorem parse_any (s : ByteArray) (w : World) (hs : s.size ≤ 60) : Calls Try.prog 37 #[.string s] w (ParsePost s w) := by
  have hmf : ∀ (fn : Fn) (first cap : Array Value) (w : World), (Instr.makeFunc fn first cap).run Try.prog w = .ok (.func fn first cap) w := fun _ _ _ _ => rfl
  have hs' : ¬ (60 : Int) < ((s.size : Nat) : Int) := by omega
  go_enter Try.func37, Try.ntmps37
  go_wp2_with (go_at_call 69; refine (overG_any _ _).mono ?_; rintro e w' ⟨rfl, rfl⟩)
  generalize hW : World.alloc _ _ = W
  have hBG := begin4 s hs w W (by rw [← hW]) (.cells #[.int .i64 0] 23)
  obtain ⟨b1, b2, b3, b4, b5, b6⟩ := hBG
  have H1 := parse1_any (w.heap.size + 1) (w.heap.size + 2) w.heap.size (W.alloc (.cells #[.int .i64 0] 23)).heap.size s s.data.toList _ b1 hs b2 b3 (by omega) (by omega) (by omega) (by omega) (by omega) (by omega) rfl
  have HH := hide H1
  clear H1 hW b1 b2 hs'
  cases hp : pParts s.data.toList with
  | error n =>
    have hn := pPartsF_code _ _ _ hp
    have hn0 : ((n : Int) == 0) = false := by rw [beq_eq_false_iff_ne]; omega
    refine (runParse_err n _ (fun j => j = w.heap.size + 1 ∨ j = w.heap.size) (fun _ => True) W (by omega) (HH.out.mono ?_)).mono ?_
    · rintro e w1 ⟨hk, _, herr⟩
      exact ⟨herr n hp, hk, trivial⟩
    · rintro e w2 ⟨rfl, w1, _, k1, k2⟩
      have hb2 : Below w.heap.size w w2 := b6.trans ((k1.below (by omega) (fun j e => by omega)).trans (k2.below (by have := k1.size; omega) (fun j e => by simp only [one] at e; omega)))
      clear HH b3 b4 b5 b6 k1 k2 hn
      go_wp2_with fail
      go_ret2
      exact ⟨hb2, fun ps hx => by rw [hp] at hx; simp at hx, fun _ _ => rfl⟩
  | ok ps =>
    refine (runParse_ok _ (fun j => j = w.heap.size + 1 ∨ j = w.heap.size) (fun w1 => ∃ V acc, acc.map Prod.snd = ps ∧ w1.heap[w.heap.size]? = some (.cells #[V] 60) ∧ PartsAt (w.heap.size + 4) w1 V acc ∧ acc.length ≤ 60) W (by omega) (HH.out.mono ?_)).mono ?_
    · rintro e w1 ⟨hk, hok, _⟩
      obtain ⟨h1, h2⟩ := hok ps hp
      rw [b4] at h2
      exact ⟨h1, hk, h2⟩
    · rintro e w2 ⟨rfl, w1, ⟨V, acc, hmap, hV, hPA, hlen⟩, k1, k2⟩
      obtain ⟨a, cap, rfl⟩ := rowSlice2 hPA.row
      have hz1 := k1.size
      have hb2 : Below w.heap.size w w2 := b6.trans ((k1.below (by omega) (fun j e => by omega)).trans (k2.below (by omega) (fun j e => by simp only [one] at e; omega)))
      have hV2 := (k2.block w.heap.size (by omega) (fun e => by simp only [one] at e; omega)).trans hV
      obtain ⟨c0, _⟩ := one_of hV2
      have HPA := hide (hPA.kept k2 (show w.heap.size ≤ w.heap.size + 4 by omega) (fun k e => by simp only [one] at e; omega))
      clear HH b3 b4 b5 b6 k1 k2 hV hV2 hPA
      generalize hln : acc.length = len at *
      go_wp2_with fail
      go_ret2
      subst hln
      exact ⟨hb2, fun ps' hx => by rw [hp] at hx; simp at hx; subst hx; exact ⟨a, cap, acc, hmap, rfl, HPA.out, hlen⟩, fun n hx => by rw [hp] at hx; simp at hx⟩
end Go.Proofs.Ytkjnalbnhmpopaa
