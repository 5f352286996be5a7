/- WALKS of matches: the looks over parts. -/
import Derived.Test.YtolpmaapdkhigabGTop
import Derived.Handy
namespace Go.Proofs.Ytolpmaapdkhigab
open Go.RowKit

theorem fnMany_any (m : Bool) (f : Nat) (caps : Array Value) (w : World) :
    Calls Try.prog 48 #[.agg #[.bool m, .func (.func f) #[] caps]] w fun e w' => e = .returned (.bool (!m)) ∧ Below w.heap.size w w' := by
  go_enter Try.func48, Try.ntmps48
  go_wp2
  go_ret
  exact ⟨rfl, (Below.refl _ _).alloc (Nat.le_refl _) _⟩

/-- parts that lie in memory, told by their marks -/
def MarksAt (w : World) (a : Option Addr) (ms : List Bool) : Prop :=
  ms = [] ∨ ∃ g o, a = some ⟨g, o, none⟩ ∧ ∀ i (h : i < ms.length), ∃ f caps, w.cell? ⟨g, o + i * 2, none⟩ = some (.bool ms[i]) ∧ w.cell? ⟨g, o + i * 2 + 1, none⟩ = some (.func (.func f) #[] caps)

set_option maxRecDepth 100000 in
set_option maxHeartbeats 1000000 in
theorem idxPart_any (a : Option Addr) (cap : Nat) (ms : List Bool) (w : World) (hs : MarksAt w a ms) (hn : ms.length ≤ 1000000) :
    Calls Try.prog 79 #[.slice a ms.length cap, .func (.func 48) #[] #[]] w fun e w' => (∃ n : Int, e = .returned (.int .i64 n) ∧ (decide (0 ≤ n) = ms.any (!·))) ∧ Below w.heap.size w w' := by
  have HS := hide hs
  clear hs
  go_enter Try.func79, Try.ntmps79
  go_wp2_with fail
  go_loopw [8] (fun i wr => ∃ k : Nat, k ≤ ms.length ∧ i = .int .i64 k ∧ Below w.heap.size w wr ∧ Hid ((ms.take k).any (!·) = false)) (fun i _ => ms.length - (intOf i).toNat)
  case atStart => exact ⟨0, Nat.zero_le _, rfl, Below.refl _ _, by simp [Hid]⟩
  case round =>
    obtain ⟨k, hk, rfl, hb, HA⟩ := hrel
    by_cases hlt : k < ms.length
    · obtain ⟨g, o, rfl, hcs⟩ : ∃ g o, a = some ⟨g, o, none⟩ ∧ ∀ i (h : i < ms.length), ∃ f caps, w.cell? ⟨g, o + i * 2, none⟩ = some (.bool ms[i]) ∧ w.cell? ⟨g, o + i * 2 + 1, none⟩ = some (.func (.func f) #[] caps) := by
        rcases HS.out with h | h
        · subst h; simp at hlt
        · exact h
      obtain ⟨f, caps, e0, e1⟩ := hcs k hlt
      have hgl : g < w.heap.size := World.block_lt_of_cell? _ _ e0
      have d0 := (hb.cell (p := ⟨g, o + k * 2, none⟩) hgl).trans e0
      have d1 := (hb.cell (p := ⟨g, o + k * 2 + 1, none⟩) hgl).trans e1
      have HT : Hid ((ms.take (k + 1)).any (!·) = ((ms.take k).any (!·) || !ms[k])) := by
        rw [Hid, List.take_succ_eq_append_getElem hlt, List.any_append]
        simp
      have HF : Hid (ms[k] = false → ms.any (!·) = true) := fun hx => List.any_eq_true.mpr ⟨ms[k], List.getElem_mem hlt, by rw [hx]; rfl⟩
      clear hcs e0 e1 HS
      go_wp2_with fail
      refine (fnMany_any ms[k] f caps wr).mono ?_
      rintro e w1 ⟨rfl, hb1⟩
      have hb2 : Below w.heap.size w w1 := hb.trans (hb1.mono hb.size)
      cases hx : ms[k] with
      | false =>
        have HY := hide (HF.out hx)
        clear HF HT hx
        go_wp2_with fail
        go_ret
        exact ⟨⟨_, rfl, by rw [HY.out]; simp⟩, hb2⟩
      | true =>
        have HY : Hid ((ms.take (k + 1)).any (!·) = false) := by rw [Hid, HT.out, HA.out, hx]; rfl
        clear HF HT hx
        go_wp2_with fail
        go_roundw
        case rel => exact ⟨k + 1, by omega, by go_num, hb2, HY⟩
        case measure => simp [intOf]; omega
    · have hkk : k = ms.length := by omega
      subst hkk
      have HY : Hid (ms.any (!·) = false) := by have := HA.out; rw [List.take_length] at this; exact this
      go_wp2_with fail
      go_ret
      exact ⟨⟨-1, rfl, by rw [HY.out]; rfl⟩, hb⟩
theorem containsPart_any (a : Option Addr) (cap : Nat) (ms : List Bool) (w : World) (hs : MarksAt w a ms) (hn : ms.length ≤ 1000000) :
    Calls Try.prog 47 #[.slice a ms.length cap, .func (.func 48) #[] #[]] w fun e w' => e = .returned (.bool (ms.any (!·))) ∧ Below w.heap.size w w' := by
  have HI := hide (idxPart_any a cap ms w hs hn)
  clear hs
  go_enter Try.func47, Try.ntmps47
  go_wp2_with fail
  refine HI.out.mono ?_
  rintro e w1 ⟨⟨n, rfl, hd⟩, hb⟩
  have HD := hide hd
  clear hd
  go_wp2_with fail
  go_ret
  exact ⟨by rw [← HD.out]; rfl, hb⟩

/-- a part's function tells whether a byte may be -/
theorem FnAt.calls {base : Nat} {w : World} {v : Value} {p : Part} (h : FnAt base w v p) :
    ∃ f caps, v = .func (.func f) #[] caps ∧ (f = 76 ∨ f = 78 ∨ f = 90) ∧ ∀ (c : UInt8) (W : World), Below w.heap.size w W → Calls Try.prog f (#[.int .u8 c.toNat] ++ caps) W fun e w' => e = .returned (.bool (p.may c)) ∧ Below W.heap.size W w' := by
  cases p with
  | star => exact ⟨_, _, h, .inl rfl, fun c W _ => (fnAny_any _ W).mono fun e w' ⟨h1, h2⟩ => ⟨h1, by rw [h2]; exact Below.refl _ _⟩⟩
  | any => exact ⟨_, _, h, .inl rfl, fun c W _ => (fnAny_any _ W).mono fun e w' ⟨h1, h2⟩ => ⟨h1, by rw [h2]; exact Below.refl _ _⟩⟩
  | lit d =>
    obtain ⟨b, _, h2, h3⟩ := h
    obtain ⟨c0, _⟩ := one_of h3
    exact ⟨_, _, h2, .inr (.inl rfl), fun c W hW => (fnLit_any b c d W ((hW.cell (p := ⟨b, 0, none⟩) (World.block_lt_of_cell? _ _ c0)).trans c0)).mono fun e w' ⟨h1, h2⟩ => ⟨h1, by rw [h2]; exact Below.refl _ _⟩⟩
  | cls neg sp =>
    obtain ⟨b1, b2, a, cap, _, _, h3, h4, h5, h6, h7⟩ := h
    obtain ⟨c0, _⟩ := one_of h4
    obtain ⟨d0, _⟩ := one_of h5
    exact ⟨_, _, h3, .inr (.inr rfl), fun c W hW => fnCls_any b1 b2 c neg a cap sp W ((hW.cell (p := ⟨b1, 0, none⟩) (World.block_lt_of_cell? _ _ c0)).trans c0) ((hW.cell (p := ⟨b2, 0, none⟩) (World.block_lt_of_cell? _ _ d0)).trans d0) ((spansAt_of_row h6).below hW) (by omega)⟩
theorem partRow_get : ∀ (l : List (Value × Part)) (i : Nat) (h : i < l.length), (partRow l)[i * 2]? = some (.bool l[i].2.many) ∧ (partRow l)[i * 2 + 1]? = some l[i].1
  | [], i, h => by simp at h
  | s :: l, 0, h => by simp [partRow]
  | s :: l, i + 1, h => by
    have := partRow_get l i (by simpa using h)
    simp only [partRow, List.map_cons, List.flatten_cons] at this ⊢
    rw [List.getElem?_append_right (by simp; omega), List.getElem?_append_right (by simp; omega)]
    rw [show (i + 1) * 2 - [Value.bool s.2.many, s.1].length = i * 2 by simp; omega, show (i + 1) * 2 + 1 - [Value.bool s.2.many, s.1].length = i * 2 + 1 by simp; omega]
    simpa using this
/-- the address of the parts behind a place -/
def tailA (a : Option Addr) (cap at_ : Nat) : Option Addr := if cap = at_ then a else a.map (·.add (at_ * 2))
theorem sizePart (w : World) : (Go.sizeOf 85).run Try.prog w = .ok 2 w := by kernel_rfl
theorem slice_parts (W : World) (a : Option Addr) (n cap at_ : Nat) (h : at_ ≤ n) :
    (Instr.slice 41 (.slice a n cap) (some (.int .i64 (at_ : Int))) none none).run Try.prog W = .ok (.slice (tailA a cap at_) (n - at_) (cap - at_)) W := by
  have ht : Try.prog.underlying 41 = some (.slice (Try.prog.elem 41)) := by kernel_rfl
  have he : Try.prog.elem 41 = 85 := by kernel_rfl
  rw [run_slice_l W _ _ _ _ ht .i64 _ (by omega) (by omega), he, sizePart]
  simp [Result.andThen, sliced, tailA]
theorem marks_of {base : Nat} {w : World} {a : Option Addr} {cap at_ : Nat} {ps : List (Value × Part)} (h : PartsAt base w (.slice a ps.length cap) ps) (hat : at_ ≤ ps.length) : MarksAt w (tailA a cap at_) ((ps.drop at_).map fun x => x.2.many) := by
  by_cases hz : at_ = ps.length
  · subst hz
    exact .inl (by simp)
  · rcases h.row.2 with ⟨hv, hn⟩ | ⟨g, cap', cur, hv, _, _, hcap, _⟩
    · omega
    · simp at hv
      obtain ⟨rfl, rfl⟩ := hv
      have hl : (partRow ps).length = ps.length * 2 := h.row.1
      refine .inr ⟨g, at_ * 2, by unfold tailA; rw [if_neg (by omega)]; simp [Addr.add]; omega, fun i hi => ?_⟩
      simp only [List.length_map, List.length_drop] at hi
      obtain ⟨g0, g1⟩ := partRow_get ps (at_ + i) (by omega)
      obtain ⟨f, caps, hf, _, _⟩ := (h.fns ps[at_ + i] (List.getElem_mem (by omega))).calls
      refine ⟨f, caps, ?_, ?_⟩
      · have := (h.row.cellAt ((at_ + i) * 2) (by omega)).trans g0
        rw [show at_ * 2 + i * 2 = (at_ + i) * 2 by omega, this]
        simp
      · have := (h.row.cellAt ((at_ + i) * 2 + 1) (by omega)).trans g1
        rw [show at_ * 2 + i * 2 + 1 = (at_ + i) * 2 + 1 by omega, this, hf]
end Go.Proofs.Ytolpmaapdkhigab
