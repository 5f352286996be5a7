/- What the readings of items give. -/
import Derived.Test.YtolpmaapdkhigacIChk10
import Derived.Test.YtolpmaapdkhigacRows
import Derived.ProofKit
import Derived.OpenShut
import Derived.Deep.Slices
import Derived.SizedLaws
namespace Go.Proofs.Ytolpmaapdkhigac
open Go.RowKit Go.ChangeShapes Go.WideShapes Go.ChangeAt Go.Deep

theorem pick_list {α : Type} {len : Nat} {p : Nat → α → Prop} (h : ∀ i, i < len → ∃ x, p i x) : ∃ L : List α, L.length = len ∧ ∀ i (hi : i < L.length), p i L[i] := by
  induction len with
  | zero => exact ⟨[], rfl, fun i hi => by simp at hi⟩
  | succ n ih =>
    obtain ⟨L, hl, hp⟩ := ih (fun i hi => h i (by omega))
    obtain ⟨x, hx⟩ := h n (by omega)
    refine ⟨L ++ [x], by simp [hl], fun i hi => ?_⟩
    by_cases hlt : i < L.length
    · rw [List.getElem_append_left hlt]; exact hp i hlt
    · have : i = L.length := by simp at hi; omega
      subst this
      simp only [List.getElem_append_right (Nat.le_refl _), Nat.sub_self, List.getElem_cons_zero]
      rw [hl]
      exact hx
theorem spot_none {w : World} {a : Addr} {v : Value} (h : w.cell? a = some v) : a.spot = none := by
  cases hs : a.spot with
  | none => rfl
  | some x =>
    exfalso
    unfold World.cell? at h
    split at h
    · simp [hs] at h
    · simp at h
theorem plain_addr {a : Addr} (h : a.spot = none) : ∃ b off, a = ⟨b, off, none⟩ := by
  cases a with
  | mk b o s => simp only at h; subst h; exact ⟨b, o, rfl⟩
theorem plus_at (b off i : Nat) : (⟨b, off, none⟩ : Addr).add i = ⟨b, off + i, none⟩ := by
  unfold Addr.add
  split
  · rename_i h; subst h; rfl
  · rfl
theorem one_list {cs : List Value} (h : cs.length = 1) : ∃ c0, cs = [c0] := by
  match cs, h with
  | [c0], _ => exact ⟨c0, rfl⟩
theorem two_list {cs : List Value} (h : cs.length = 2) : ∃ c0 c1, cs = [c0, c1] := by
  match cs, h with
  | [c0, c1], _ => exact ⟨c0, c1, rfl⟩
theorem five_list {cs : List Value} (h : cs.length = 5) : ∃ c0 c1 c2 c3 c4, cs = [c0, c1, c2, c3, c4] := by
  match cs, h with
  | [c0, c1, c2, c3, c4], _ => exact ⟨c0, c1, c2, c3, c4, rfl⟩

theorem cellsItem : Try.prog.cellsOf 26 = 5 := by kernel_rfl
theorem cellsPair : Try.prog.cellsOf 62 = 2 := by kernel_rfl
theorem cellsScore : Try.prog.cellsOf 64 = 2 := by kernel_rfl
theorem cellsI : Try.prog.cellsOf 3 = 1 := by kernel_rfl
theorem cellsS : Try.prog.cellsOf 9 = 1 := by kernel_rfl
theorem cellsL1 : Try.prog.cellsOf 22 = 1 := by kernel_rfl
theorem cellsL2 : Try.prog.cellsOf 23 = 1 := by kernel_rfl
theorem cellsL3 : Try.prog.cellsOf 24 = 1 := by kernel_rfl
theorem bytesS : Try.prog.bytesOf 9 = 16 := by kernel_rfl
theorem bytesP : Try.prog.bytesOf 62 = 32 := by kernel_rfl
theorem bytesSc : Try.prog.bytesOf 64 = 24 := by kernel_rfl

section
variable {H : Type} {enc : TypeId × Value → H} {W : World} {held : Bool}
/-- how many there are, of the reading -/
def datLen : DataW H → Nat
  | .slice es _ => es.length
  | _ => 0
theorem texts_of_trod {n : Nat} {lv : Value} {x : DataW H × List MemPlace} (h : DataW.trod enc Try.prog W 0 (fun _ => true) held n 22 [lv] = some x) :
    ∃ a cap ts, lv = .slice a (List.length ts) cap ∧ TextsAt W a ts ∧ (∀ t ∈ ts, t.size ≤ maxLen) ∧ (ts.length = 0 ∨ ∃ es sp, x.1 = .slice es sp ∧ es.length = ts.length) := by
  rcases open_slice Try.underlying22 h with ⟨hcs, _⟩ | ⟨a, len, cap, m, n', D, Pl, hcs, _, hl, hm, hmm, hx, hcell⟩
  · simp at hcs
    exact ⟨none, 0, [], hcs, .inl rfl, by simp, .inl rfl⟩
  · simp at hcs
    have hmc : m = cap := by simpa using hmm
    subst hmc
    rw [cellsS] at hcell
    obtain ⟨rs, hrl, hrs⟩ := pick_list (len := len) (p := fun i (r : ByteArray) => W.cell? ((a.add (i * 1)).add 0) = some (.string r) ∧ r.size ≤ maxLen) (fun i hi => by
      obtain ⟨cs', hc, hd⟩ := hcell i (by omega)
      obtain ⟨hcl, _, hg⟩ := World.cells?_some hc
      obtain ⟨t, e1, _, hts⟩ := DataW.trod_string Try.underlying9 hd
      subst e1
      exact ⟨t, hg 0 (by omega), hts⟩)
    subst hrl
    refine ⟨some a, m, rs, hcs, ?_, ?_, .inr ⟨_, _, by rw [hx], by simp⟩⟩
    · by_cases h0 : rs = []
      · exact .inl h0
      · have hpos : 0 < rs.length := List.length_pos_iff.2 h0
        obtain ⟨b, off, rfl⟩ := plain_addr (by have e := spot_none (hrs 0 hpos).1; simpa [Addr.add] using e : a.spot = none)
        refine .inr ⟨b, off, rfl, fun i hi => ?_⟩
        have := (hrs i hi).1
        rw [plus_at, plus_at, Nat.mul_one] at this
        exact this
    · intro t ht
      obtain ⟨i, hi, rfl⟩ := List.getElem_of_mem ht
      exact (hrs i hi).2
theorem pair_parts {n : Nat} {cs : List Value} {x : DataW H × List MemPlace} (h : DataW.trod enc Try.prog W 0 (fun _ => true) held n 62 cs = some x) :
    ∃ t1 t2 : ByteArray, cs = [.string t1, .string t2] ∧ t1.size ≤ maxLen ∧ t2.size ≤ maxLen := by
  obtain ⟨xs, n', rfl, hx, hl, hxl, hall⟩ := DataW.trod_struct Try.underlying62 h
  rw [cellsPair] at hl
  obtain ⟨c0, c1, rfl⟩ := two_list hl
  have hl2 : xs.length = 2 := hxl
  have h0 : DataW.trod enc Try.prog W 0 (fun _ => true) held n' 9 (([c0, c1].drop 0).take (Try.prog.cellsOf 9)) = xs[0]? := hall 0 _ rfl
  have h1 : DataW.trod enc Try.prog W 0 (fun _ => true) held n' 9 (([c0, c1].drop 1).take (Try.prog.cellsOf 9)) = xs[1]? := hall 1 _ rfl
  clear hall
  rw [cellsS, List.getElem?_eq_getElem (by omega)] at h0 h1
  obtain ⟨t0, e0, _, s0⟩ := DataW.trod_string Try.underlying9 h0
  obtain ⟨t1, e1, _, s1⟩ := DataW.trod_string Try.underlying9 h1
  simp at e0 e1
  subst e0 e1
  exact ⟨t0, t1, rfl, s0, s1⟩
theorem score_parts {n : Nat} {cs : List Value} {x : DataW H × List MemPlace} (h : DataW.trod enc Try.prog W 0 (fun _ => true) held n 64 cs = some x) :
    ∃ (t1 : Int) (t2 : ByteArray), cs = [.int .i64 t1, .string t2] ∧ t2.size ≤ maxLen ∧ -9223372036854775808 ≤ t1 ∧ t1 ≤ 9223372036854775807 := by
  obtain ⟨xs, n', rfl, hx, hl, hxl, hall⟩ := DataW.trod_struct Try.underlying64 h
  rw [cellsScore] at hl
  obtain ⟨c0, c1, rfl⟩ := two_list hl
  have hl2 : xs.length = 2 := hxl
  have h0 : DataW.trod enc Try.prog W 0 (fun _ => true) held n' 3 (([c0, c1].drop 0).take (Try.prog.cellsOf 3)) = xs[0]? := hall 0 _ rfl
  have h1 : DataW.trod enc Try.prog W 0 (fun _ => true) held n' 9 (([c0, c1].drop 1).take (Try.prog.cellsOf 9)) = xs[1]? := hall 1 _ rfl
  clear hall
  rw [cellsI, List.getElem?_eq_getElem (by omega)] at h0
  rw [cellsS, List.getElem?_eq_getElem (by omega)] at h1
  obtain ⟨t0, e0, _, s0⟩ := DataW.trod_int Try.underlying3 h0
  obtain ⟨t1, e1, _, s1⟩ := DataW.trod_string Try.underlying9 h1
  simp at e0 e1
  subst e0 e1
  exact ⟨t0, t1, rfl, s1, bounds_i64 s0⟩
theorem pairs_of_trod {n : Nat} {lv : Value} {x : DataW H × List MemPlace} (h : DataW.trod enc Try.prog W 0 (fun _ => true) held n 23 [lv] = some x) :
    ∃ a cap ts, lv = .slice a (List.length ts) cap ∧ PairsAt W a ts ∧ (∀ t ∈ ts, t.1.size ≤ maxLen ∧ t.2.size ≤ maxLen) ∧ (ts.length = 0 ∨ ∃ es sp, x.1 = .slice es sp ∧ es.length = ts.length) := by
  rcases open_slice Try.underlying23 h with ⟨hcs, _⟩ | ⟨a, len, cap, m, n', D, Pl, hcs, _, hl, hm, hmm, hx, hcell⟩
  · simp at hcs
    exact ⟨none, 0, [], hcs, .inl rfl, by simp, .inl rfl⟩
  · simp at hcs
    have hmc : m = cap := by simpa using hmm
    subst hmc
    rw [cellsPair] at hcell
    obtain ⟨rs, hrl, hrs⟩ := pick_list (len := len) (p := fun i (t : ByteArray × ByteArray) => W.cell? ((a.add (i * 2)).add 0) = some (.string t.1) ∧ W.cell? ((a.add (i * 2)).add 1) = some (.string t.2) ∧ t.1.size ≤ maxLen ∧ t.2.size ≤ maxLen) (fun i hi => by
      obtain ⟨cs', hc, hd⟩ := hcell i (by omega)
      obtain ⟨hcl, _, hg⟩ := World.cells?_some hc
      obtain ⟨t1, t2, e1, hts⟩ := pair_parts hd
      subst e1
      exact ⟨(t1, t2), hg 0 (by omega), hg 1 (by omega), hts⟩)
    subst hrl
    refine ⟨some a, m, rs, hcs, ?_, ?_, .inr ⟨_, _, by rw [hx], by simp⟩⟩
    · by_cases h0 : rs = []
      · exact .inl h0
      · have hpos : 0 < rs.length := List.length_pos_iff.2 h0
        obtain ⟨b, off, rfl⟩ := plain_addr (by have e := spot_none (hrs 0 hpos).1; simpa [Addr.add] using e : a.spot = none)
        refine .inr ⟨b, off, rfl, fun i hi => ?_⟩
        have g1 := (hrs i hi).1
        have g2 := (hrs i hi).2.1
        rw [plus_at, plus_at] at g1 g2
        exact ⟨g1, g2⟩
    · intro t ht
      obtain ⟨i, hi, rfl⟩ := List.getElem_of_mem ht
      exact (hrs i hi).2.2
theorem scores_of_trod {n : Nat} {lv : Value} {x : DataW H × List MemPlace} (h : DataW.trod enc Try.prog W 0 (fun _ => true) held n 24 [lv] = some x) :
    ∃ a cap ts, lv = .slice a (List.length ts) cap ∧ ScoresAt W a ts ∧ (∀ t ∈ ts, t.2.size ≤ maxLen ∧ -9223372036854775808 ≤ t.1 ∧ t.1 ≤ 9223372036854775807) ∧ (ts.length = 0 ∨ ∃ es sp, x.1 = .slice es sp ∧ es.length = ts.length) := by
  rcases open_slice Try.underlying24 h with ⟨hcs, _⟩ | ⟨a, len, cap, m, n', D, Pl, hcs, _, hl, hm, hmm, hx, hcell⟩
  · simp at hcs
    exact ⟨none, 0, [], hcs, .inl rfl, by simp, .inl rfl⟩
  · simp at hcs
    have hmc : m = cap := by simpa using hmm
    subst hmc
    rw [cellsScore] at hcell
    obtain ⟨rs, hrl, hrs⟩ := pick_list (len := len) (p := fun i (t : Int × ByteArray) => W.cell? ((a.add (i * 2)).add 0) = some (.int .i64 t.1) ∧ W.cell? ((a.add (i * 2)).add 1) = some (.string t.2) ∧ t.2.size ≤ maxLen ∧ -9223372036854775808 ≤ t.1 ∧ t.1 ≤ 9223372036854775807) (fun i hi => by
      obtain ⟨cs', hc, hd⟩ := hcell i (by omega)
      obtain ⟨hcl, _, hg⟩ := World.cells?_some hc
      obtain ⟨t1, t2, e1, hts⟩ := score_parts hd
      subst e1
      exact ⟨(t1, t2), hg 0 (by omega), hg 1 (by omega), hts⟩)
    subst hrl
    refine ⟨some a, m, rs, hcs, ?_, ?_, .inr ⟨_, _, by rw [hx], by simp⟩⟩
    · by_cases h0 : rs = []
      · exact .inl h0
      · have hpos : 0 < rs.length := List.length_pos_iff.2 h0
        obtain ⟨b, off, rfl⟩ := plain_addr (by have e := spot_none (hrs 0 hpos).1; simpa [Addr.add] using e : a.spot = none)
        refine .inr ⟨b, off, rfl, fun i hi => ?_⟩
        have g1 := (hrs i hi).1
        have g2 := (hrs i hi).2.1
        rw [plus_at, plus_at] at g1 g2
        exact ⟨g1, g2⟩
    · intro t ht
      obtain ⟨i, hi, rfl⟩ := List.getElem_of_mem ht
      exact (hrs i hi).2.2

theorem weights_agg {P : Program} {t : TypeId} {fs : Array Field} {parts : List (DataW H)} (hu : P.underlying t = some (.struct fs)) (h : ((DataW.agg parts).weights P t).all (· ≤ reachBytes) = true) : (DataW.weightsEach P (fs.toList.map (·.type)) parts).all (· ≤ reachBytes) = true := by
  unfold DataW.weights at h
  rw [hu] at h
  exact h
theorem weights_at {P : Program} {ts : List TypeId} {ds : List (DataW H)} (h : (DataW.weightsEach P ts ds).all (· ≤ reachBytes) = true) {j : Nat} {t : TypeId} {d : DataW H} (ht : ts[j]? = some t) (hd : ds[j]? = some d) : (d.weights P t).all (· ≤ reachBytes) = true := by
  rw [List.all_eq_true] at h ⊢
  intro n hn
  exact h n (DataW.weights_mem_each ht hd n hn)

set_option maxRecDepth 100000 in
theorem item_cells {n : Nat} {cs : List Value} {x : DataW H × List MemPlace} (h : DataW.trod enc Try.prog W 0 (fun _ => true) held n 26 cs = some x) (hw : (x.1.weights Try.prog 26).all (· ≤ reachBytes) = true) :
    ∃ y : Itm, ItemIs W (.agg cs.toArray) y := by
  obtain ⟨xs, n', rfl, hx, hl, hxl, hall⟩ := DataW.trod_struct Try.underlying26 h
  rw [cellsItem] at hl
  obtain ⟨c0, c1, c2, c3, c4, rfl⟩ := five_list hl
  have hl5 : xs.length = 5 := hxl
  have h0 : DataW.trod enc Try.prog W 0 (fun _ => true) held n' 3 (([c0, c1, c2, c3, c4].drop 0).take (Try.prog.cellsOf 3)) = xs[0]? := hall 0 _ rfl
  have h1 : DataW.trod enc Try.prog W 0 (fun _ => true) held n' 9 (([c0, c1, c2, c3, c4].drop 1).take (Try.prog.cellsOf 9)) = xs[1]? := hall 1 _ rfl
  have h2 : DataW.trod enc Try.prog W 0 (fun _ => true) held n' 22 (([c0, c1, c2, c3, c4].drop 2).take (Try.prog.cellsOf 22)) = xs[2]? := hall 2 _ rfl
  have h3 : DataW.trod enc Try.prog W 0 (fun _ => true) held n' 23 (([c0, c1, c2, c3, c4].drop 3).take (Try.prog.cellsOf 23)) = xs[3]? := hall 3 _ rfl
  have h4 : DataW.trod enc Try.prog W 0 (fun _ => true) held n' 24 (([c0, c1, c2, c3, c4].drop 4).take (Try.prog.cellsOf 24)) = xs[4]? := hall 4 _ rfl
  clear hall
  rw [cellsI, List.getElem?_eq_getElem (by omega)] at h0
  rw [cellsS, List.getElem?_eq_getElem (by omega)] at h1
  rw [cellsL1, List.getElem?_eq_getElem (by omega)] at h2
  rw [cellsL2, List.getElem?_eq_getElem (by omega)] at h3
  rw [cellsL3, List.getElem?_eq_getElem (by omega)] at h4
  obtain ⟨k, e0, _, _⟩ := DataW.trod_int Try.underlying3 h0
  obtain ⟨t, e1, _, hts⟩ := DataW.trod_string Try.underlying9 h1
  simp at e0 e1
  subst e0 e1
  obtain ⟨a1, p1, l1, e2, i2, s2, w2⟩ := texts_of_trod h2
  obtain ⟨a2, p2, l2, e3, i3, s3, w3⟩ := pairs_of_trod h3
  obtain ⟨a3, p3, l3, e4, i4, s4, w4⟩ := scores_of_trod h4
  subst e2 e3 e4
  rw [hx] at hw
  have hws := weights_agg Try.underlying26 hw
  have hrb := reachBytes_lt
  have b1 : l1.length ≤ 281474976710656 := by
    rcases w2 with w2 | ⟨es, sp, we, wl⟩
    · omega
    · have := sized_slice hws (elems := es) (spare := sp) (j := 2) (t := 22) rfl (by simp [hl5, we]) Try.underlying22
      rw [bytesS] at this
      omega
  have b2 : l2.length ≤ 281474976710656 := by
    rcases w3 with w3 | ⟨es, sp, we, wl⟩
    · omega
    · have := sized_slice hws (elems := es) (spare := sp) (j := 3) (t := 23) rfl (by simp [hl5, we]) Try.underlying23
      rw [bytesP] at this
      omega
  have b3 : l3.length ≤ 281474976710656 := by
    rcases w4 with w4 | ⟨es, sp, we, wl⟩
    · omega
    · have := sized_slice hws (elems := es) (spare := sp) (j := 4) (t := 24) rfl (by simp [hl5, we]) Try.underlying24
      rw [bytesSc] at this
      omega
  exact ⟨⟨k, t, l1, l2, l3⟩, ⟨⟨a1, p1, a2, p2, a3, p3, rfl, i2, i3, i4⟩, hts, s2, s3, fun y hy => (s4 y hy).1, b1, b2, b3⟩⟩
set_option maxRecDepth 100000 in
theorem item_of_trod {base : Nat} {v : Value} {d : DataW H} {pl : List MemPlace} (hv : Value.okWide Try.prog W .any base 26 v) (h : DataW.Trod enc Try.prog W 0 (fun _ => true) held 26 v d pl) (hw : (d.weights Try.prog 26).all (· ≤ reachBytes) = true) :
    ∃ y : Itm, ItemIs W v y := by
  obtain ⟨cs, rfl, _⟩ := okWide_struct Try.underlying26 hv
  obtain ⟨fuel, hf⟩ := h
  obtain ⟨y, hy⟩ := item_cells hf hw
  have hy2 : ItemIs W (.agg (Value.agg cs).cells) y := by simpa using hy
  exact ⟨y, hy2⟩
set_option maxRecDepth 100000 in
theorem list_of_trod {base : Nat} {v : Value} {d : DataW H} {pl : List MemPlace} (hv : Value.okWide Try.prog W .any base 22 v) (h : DataW.Trod enc Try.prog W 0 (fun _ => true) held 22 v d pl) (hw : (d.weights Try.prog 22).all (· ≤ reachBytes) = true) :
    ∃ a c l, v = .slice a (List.length l) c ∧ TextsAt W a l ∧ (∀ t ∈ l, t.size ≤ maxLen) ∧ l.length ≤ 8796093022208 := by
  obtain ⟨a0, n0, c0, rfl⟩ := okWide_slice Try.underlying22 hv
  obtain ⟨fuel, hf⟩ := h
  obtain ⟨a, c, l, e, i, z, wl⟩ := texts_of_trod (lv := .slice a0 n0 c0) hf
  refine ⟨a, c, l, e, i, z, ?_⟩
  rcases wl with wl | ⟨es, sp, we, hl⟩
  · omega
  · have hws : (DataW.weightsEach Try.prog [22] [d]).all (· ≤ reachBytes) = true := by
      rw [DataW.weightsEach, DataW.weightsEach, List.append_nil]
      exact hw
      all_goals simp
    have hrb := reachBytes_lt
    have := sized_slice hws (elems := es) (spare := sp) (j := 0) (t := 22) rfl (by rw [← we]; rfl) Try.underlying22
    rw [bytesS] at this
    omega
end
end Go.Proofs.Ytolpmaapdkhigac
