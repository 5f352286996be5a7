/- What the readings of replies give, and what the row's variables hold. -/
import Derived.Test.YtolpmaapdkhigaaDoorBack7
import Derived.Test.YtolpmaapdkhigaaDoorRows
import Derived.ProofKit
import Derived.Deep.Slices
import Derived.Lib.LaidTab
import Derived.Lib.LaidU8
namespace Go.Proofs.YtolpmaapdkhigaaDoor
open Go.RowKit Go.ChangeShapes Go.WideShapes Go.ChangeAt Go.Deep

theorem pick_list {α : Type} {len : Nat} {p : Nat → α → Prop} (h : ∀ i, i < len → ∃ x, p i x) : ∃ L : List α, L.length = len ∧ ∀ i (hi : i < L.length), p i L[i] := by
  induction len with
  | zero => exact ⟨[], rfl, fun i hi => by simp at hi⟩
  | succ n ih =>
    obtain ⟨L, hl, hp⟩ := ih (fun i hi => h i (by omega))
    obtain ⟨x, hx⟩ := h n (by omega)
    refine ⟨L ++ [x], by simp [hl], fun i hi => ?_⟩
    by_cases hlt : i < L.length
    · rw [List.getElem_append_left hlt]; exact hp i hlt
    · have : i = L.length := by simp at hi; omega
      subst this
      simp only [List.getElem_append_right (Nat.le_refl _), Nat.sub_self, List.getElem_cons_zero]
      rw [hl]
      exact hx
theorem spot_none {w : World} {a : Addr} {v : Value} (h : w.cell? a = some v) : a.spot = none := by
  cases hs : a.spot with
  | none => rfl
  | some x =>
    exfalso
    unfold World.cell? at h
    split at h
    · simp [hs] at h
    · simp at h
theorem plain_addr {a : Addr} (h : a.spot = none) : ∃ b off, a = ⟨b, off, none⟩ := by
  cases a with
  | mk b o s => simp only at h; subst h; exact ⟨b, o, rfl⟩
theorem plus_at (b off i : Nat) : (⟨b, off, none⟩ : Addr).add i = ⟨b, off + i, none⟩ := by
  unfold Addr.add
  split
  · rename_i h; subst h; rfl
  · rfl

theorem cellsReply : Tryd.prog.cellsOf 24 = 4 := by kernel_rfl
theorem cellsInt : Tryd.prog.cellsOf 3 = 1 := by kernel_rfl
theorem cellsStr : Tryd.prog.cellsOf 9 = 1 := by kernel_rfl
theorem cellsList : Tryd.prog.cellsOf 22 = 1 := by kernel_rfl
theorem four_list {cs : List Value} (h : cs.length = 4) : ∃ c0 c1 c2 c3, cs = [c0, c1, c2, c3] := by
  match cs, h with
  | [c0, c1, c2, c3], _ => exact ⟨c0, c1, c2, c3, rfl⟩

theorem reply_parts {H : Type} {enc : TypeId × Value → H} {W : World} {n : Nat} {cs : List Value} {x : DataW H × List MemPlace} (h : DataW.trod enc Tryd.prog W 0 (fun _ => true) true n 24 cs = some x) :
    ∃ (k : Int) (t : ByteArray) (m : Int) (lv : Value) (n' : Nat) (y : DataW H × List MemPlace), cs = [.int .i64 k, .string t, .int .i64 m, lv] ∧ t.size ≤ maxLen ∧ DataW.trod enc Tryd.prog W 0 (fun _ => true) true n' 22 [lv] = some y := by
  obtain ⟨xs, n', rfl, hx, hl, hxl, hall⟩ := DataW.trod_struct Tryd.underlying24 h
  rw [cellsReply] at hl
  obtain ⟨c0, c1, c2, c3, rfl⟩ := four_list hl
  have hl4 : xs.length = 4 := hxl
  have h0 : DataW.trod enc Tryd.prog W 0 (fun _ => true) true n' 3 (([c0, c1, c2, c3].drop 0).take (Tryd.prog.cellsOf 3)) = xs[0]? := hall 0 _ rfl
  have h1 : DataW.trod enc Tryd.prog W 0 (fun _ => true) true n' 9 (([c0, c1, c2, c3].drop 1).take (Tryd.prog.cellsOf 9)) = xs[1]? := hall 1 _ rfl
  have h2 : DataW.trod enc Tryd.prog W 0 (fun _ => true) true n' 3 (([c0, c1, c2, c3].drop 2).take (Tryd.prog.cellsOf 3)) = xs[2]? := hall 2 _ rfl
  have h3 : DataW.trod enc Tryd.prog W 0 (fun _ => true) true n' 22 (([c0, c1, c2, c3].drop 3).take (Tryd.prog.cellsOf 22)) = xs[3]? := hall 3 _ rfl
  clear hall
  rw [cellsInt, List.getElem?_eq_getElem (by omega)] at h0 h2
  rw [cellsStr, List.getElem?_eq_getElem (by omega)] at h1
  rw [cellsList, List.getElem?_eq_getElem (by omega)] at h3
  obtain ⟨k, e0, _, _⟩ := DataW.trod_int Tryd.underlying3 h0
  obtain ⟨t, e1, _, hts⟩ := DataW.trod_string Tryd.underlying9 h1
  obtain ⟨m, e2, _, _⟩ := DataW.trod_int Tryd.underlying3 h2
  simp at e0 e1 e2
  subst e0 e1 e2
  exact ⟨k, t, m, c3, n', _, rfl, hts, h3⟩

/-- a value of the list's type is a slice -/
theorem list_slice {H : Type} {enc : TypeId × Value → H} {W : World} {n : Nat} {lv : Value} {x : DataW H × List MemPlace} (h : DataW.trod enc Tryd.prog W 0 (fun _ => true) true n 22 [lv] = some x) : ∃ a len cap, lv = .slice a len cap := by
  rcases open_slice Tryd.underlying22 h with ⟨hcs, _⟩ | ⟨a, len, cap, m, n', D, Pl, hcs, _⟩
  · simp at hcs; exact ⟨_, _, _, hcs⟩
  · simp at hcs; exact ⟨_, _, _, hcs⟩

theorem list_of_trod {H : Type} {enc : TypeId × Value → H} {W : World} {n : Nat} {lv : Value} {x : DataW H × List MemPlace} (h : DataW.trod enc Tryd.prog W 0 (fun _ => true) true n 22 [lv] = some x) :
    ∃ a cap rs, lv = .slice a (List.length rs) cap ∧ ListAt W a rs := by
  rcases open_slice Tryd.underlying22 h with ⟨hcs, _⟩ | ⟨a, len, cap, m, n', D, Pl, hcs, _, hl, hm, hmm, hx, hcell⟩
  · simp at hcs
    exact ⟨none, 0, [], hcs, .inl rfl⟩
  · simp at hcs
    have hmc : m = cap := by simpa using hmm
    subst hmc
    rw [cellsReply] at hcell
    obtain ⟨rs, hrl, hrs⟩ := pick_list (len := len) (p := fun i (r : Rep) => W.cell? ((a.add (i * 4)).add 0) = some (.int .i64 r.k) ∧ W.cell? ((a.add (i * 4)).add 1) = some (.string r.t) ∧ W.cell? ((a.add (i * 4)).add 2) = some (.int .i64 r.n) ∧ W.cell? ((a.add (i * 4)).add 3) = some (.slice r.a r.len r.cap) ∧ r.t.size ≤ maxLen) (fun i hi => by
      obtain ⟨cs', hc, hd⟩ := hcell i (by omega)
      obtain ⟨k, t, q, lv', n2, y, rfl, ht, hy⟩ := reply_parts hd
      obtain ⟨a', len', cap', rfl⟩ := list_slice hy
      obtain ⟨_, _, hg⟩ := World.cells?_some hc
      exact ⟨⟨k, t, q, a', len', cap'⟩, hg 0 (by omega), hg 1 (by omega), hg 2 (by omega), hg 3 (by omega), ht⟩)
    subst hrl
    refine ⟨some a, m, rs, hcs, ?_⟩
    by_cases h0 : rs = []
    · exact .inl h0
    · have hpos : 0 < rs.length := List.length_pos_iff.2 h0
      obtain ⟨b, off, rfl⟩ := plain_addr (by have e := spot_none (hrs 0 hpos).1; simpa [Addr.add] using e : a.spot = none)
      refine .inr ⟨b, off, rfl, fun i hi => ?_, fun i hi => ?_, fun i hi => ?_, fun i hi => ?_, fun r hr => ?_⟩
      · have := (hrs i hi).1
        rw [plus_at, plus_at] at this
        exact this
      · have := (hrs i hi).2.1
        rw [plus_at, plus_at] at this
        exact this
      · have := (hrs i hi).2.2.1
        rw [plus_at, plus_at] at this
        exact this
      · have := (hrs i hi).2.2.2.1
        rw [plus_at, plus_at] at this
        exact this
      · obtain ⟨i, hi, rfl⟩ := List.getElem_of_mem hr
        exact (hrs i hi).2.2.2.2

set_option maxRecDepth 100000 in
theorem top_of_trod {H : Type} {enc : TypeId × Value → H} {W : World} {base : Nat} {v : Value} {d : DataW H} {pl : List MemPlace} (hv : Value.okWide Tryd.prog W .any base 24 v) (h : DataW.Trod enc Tryd.prog W 0 (fun _ => true) true 24 v d pl) :
    ∃ x : Top, v = x.val ∧ x.Lies W := by
  obtain ⟨cs, rfl, _⟩ := okWide_struct Tryd.underlying24 hv
  obtain ⟨fuel, hf⟩ := h
  obtain ⟨k, t, m, lv, n', y, hcs, ht, hy⟩ := reply_parts hf
  obtain ⟨a, cap, rs, rfl, hl⟩ := list_of_trod hy
  refine ⟨⟨k, t, m, a, cap, rs⟩, ?_, ⟨hl, ht⟩⟩
  have e : cs.toList = [.int .i64 k, .string t, .int .i64 m, .slice a rs.length cap] := hcs
  simp only [Top.val]
  rw [show cs = cs.toList.toArray by simp, e]

theorem iface_read {H : Type} {enc : TypeId × Value → H} {W : World} {n : Nat} {t : TypeId} {ms : Array (String × TypeId)} {cs : List Value} {x : DataW H × List MemPlace} (ht : Tryd.prog.underlying t = some (.interface ms)) (h : DataW.trod enc Tryd.prog W 0 (fun _ => true) false n t cs = some x) :
    ∃ ev, cs[0]? = some ev ∧ (ev = .nilIface ∨ ∃ te pe, ev = .iface te pe) := by
  cases n with
  | zero => simp [DataW.trod] at h
  | succ n =>
    unfold DataW.trod at h
    rw [ht] at h
    simp only at h
    split at h
    all_goals first
      | exact ⟨_, rfl, .inl rfl⟩
      | exact ⟨_, rfl, .inr ⟨_, _, rfl⟩⟩
      | (exfalso; rename_i heq; simp at heq; done)
      | (exfalso; simp at h; done)
      | (exfalso; simp_all; done)
end Go.Proofs.YtolpmaapdkhigaaDoor
