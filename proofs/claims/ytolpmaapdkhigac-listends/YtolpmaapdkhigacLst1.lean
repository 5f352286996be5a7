/- WALKS of what elements stay. -/
import Derived.Test.YtolpmaapdkhigacCom
import Derived.Test.YtolpmaapdkhigacRIs
import Derived.Handy
namespace Go.Proofs.Ytolpmaapdkhigac
open Go.RowKit

theorem infoStr : (Try.prog.info? 9).map (fun i => (i.zero, i.size, i.bytes)) = some (some (.string ⟨#[]⟩), 1, 16) := by kernel_rfl
/-- a list as an item: nothing, if it has no elements -/
def lstI (l : List ByteArray) : Itm := if l = [] then Itm.none else ⟨2, ⟨#[]⟩, l, [], []⟩
def strs (l : List ByteArray) : List Value := l.map Value.string
/-- those of the first k that stay -/
def keptTo (goes : Nat → ByteArray → Bool) (l : List ByteArray) (k : Nat) : List ByteArray := ((List.range k).filter fun i => !goes i l[i]!).map fun i => l[i]!
theorem keptTo_go {goes : Nat → ByteArray → Bool} {l : List ByteArray} {k : Nat} (hk : k < l.length) (h : goes k l[k] = true) : keptTo goes l (k + 1) = keptTo goes l k := by
  unfold keptTo
  rw [List.range_succ, List.filter_append, List.map_append]
  simp [hk, h]
theorem keptTo_stay {goes : Nat → ByteArray → Bool} {l : List ByteArray} {k : Nat} (hk : k < l.length) (h : goes k l[k] = false) : keptTo goes l (k + 1) = keptTo goes l k ++ [l[k]] := by
  unfold keptTo
  rw [List.range_succ, List.filter_append, List.map_append]
  simp [hk, h]
theorem keptTo_len (goes : Nat → ByteArray → Bool) (l : List ByteArray) (k : Nat) : (keptTo goes l k).length ≤ k := by
  unfold keptTo
  rw [List.length_map]
  have := List.length_filter_le (fun i => !goes i l[i]!) (List.range k)
  simpa using this
theorem keptTo_mem {goes : Nat → ByteArray → Bool} {l : List ByteArray} {k : Nat} (hk : k ≤ l.length) : ∀ t ∈ keptTo goes l k, t ∈ l := by
  intro t ht
  unfold keptTo at ht
  obtain ⟨i, hi, rfl⟩ := List.mem_map.1 ht
  have := List.mem_range.1 (List.mem_filter.1 hi).1
  rw [getElem!_pos l i (by omega)]
  exact List.getElem_mem _
/-- texts of a row of one's own -/
theorem texts_own {w : World} {base : Nat} {a : Option Addr} {cap : Nat} {xs : List ByteArray} (h : w.ownsRow base 9 1 (.slice a xs.length cap) xs.length (strs xs)) : TextsAt w a xs := by
  rcases h.2 with ⟨hv, h0⟩ | ⟨g, cp, cur, hv, _⟩
  · exact .inl (List.eq_nil_of_length_eq_zero h0)
  · injection hv with h1 h2 h3
    subst h1
    refine .inr ⟨g, 0, rfl, fun i hi => ?_⟩
    have := h.cellAt i (by omega)
    rw [Nat.zero_add, this]
    simp [strs, hi]
theorem texts_apart {w w' : World} {base b : Nat} {a : Option Addr} {cap : Nat} {xs : List ByteArray} (h : w.ownsRow base 9 1 (.slice a xs.length cap) xs.length (strs xs)) (hb : b < base) (hw : ∀ g o, g ≠ b → w'.cell? ⟨g, o, none⟩ = w.cell? ⟨g, o, none⟩) : TextsAt w' a xs := by
  rcases h.2 with ⟨hv, h0⟩ | ⟨g, cp, cur, hv, hg, _⟩
  · exact .inl (List.eq_nil_of_length_eq_zero h0)
  · injection hv with h1 h2 h3
    subst h1
    refine .inr ⟨g, 0, rfl, fun i hi => ?_⟩
    have := h.cellAt i (by omega)
    rw [hw _ _ (by omega), Nat.zero_add, this]
    simp [strs, hi]
theorem five_apart (w : World) (b : Nat) (v0 v1 v2 v3 v4 : Value) (g o : Nat) (hg : g ≠ b) : (((((w.setCell ⟨b, 0, none⟩ v0).setCell ⟨b, 1, none⟩ v1).setCell ⟨b, 2, none⟩ v2).setCell ⟨b, 3, none⟩ v3).setCell ⟨b, 4, none⟩ v4).cell? ⟨g, o, none⟩ = w.cell? ⟨g, o, none⟩ := by
  rw [World.cell?_setCell_other _ _ _ _ (by intro e; injection e with e1; omega), World.cell?_setCell_other _ _ _ _ (by intro e; injection e with e1; omega), World.cell?_setCell_other _ _ _ _ (by intro e; injection e with e1; omega), World.cell?_setCell_other _ _ _ _ (by intro e; injection e with e1; omega), World.cell?_setCell_other _ _ _ _ (by intro e; injection e with e1; omega)]
/-- an item whose memory lies from block B on -/
def ItemFrom (B : Nat) (w : World) (v : Value) (x : Itm) : Prop := ∀ w', (∀ g o u, B ≤ g → w.cell? ⟨g, o, none⟩ = some u → w'.cell? ⟨g, o, none⟩ = some u) → ItemIs w' v x
theorem ItemFrom.is {B : Nat} {w : World} {v : Value} {x : Itm} (h : ItemFrom B w v x) : ItemIs w v x := h w (fun _ _ _ _ hu => hu)
theorem ItemFrom.moved {B : Nat} {w w' : World} {v : Value} {x : Itm} (h : ItemFrom B w v x) (hw : ∀ g o u, B ≤ g → w.cell? ⟨g, o, none⟩ = some u → w'.cell? ⟨g, o, none⟩ = some u) : ItemFrom B w' v x := fun w'' h2 => h w'' (fun g o u hg hu => h2 g o u hg (hw g o u hg hu))
theorem ItemFrom.low {B C : Nat} {w : World} {v : Value} {x : Itm} (h : ItemFrom B w v x) (hC : C ≤ B) : ItemFrom C w v x := fun w' hw => h w' (fun g o u hg hu => hw g o u (Nat.le_trans hC hg) hu)
theorem texts_from {w w' : World} {base : Nat} {a : Option Addr} {cap : Nat} {xs : List ByteArray} (h : w.ownsRow base 9 1 (.slice a xs.length cap) xs.length (strs xs)) (hw : ∀ g o u, base ≤ g → w.cell? ⟨g, o, none⟩ = some u → w'.cell? ⟨g, o, none⟩ = some u) : TextsAt w' a xs := by
  rcases h.2 with ⟨hv, h0⟩ | ⟨g, cp, cur, hv, hg, _⟩
  · exact .inl (List.eq_nil_of_length_eq_zero h0)
  · injection hv with h1 h2 h3
    subst h1
    refine .inr ⟨g, 0, rfl, fun i hi => ?_⟩
    have := h.cellAt i (by omega)
    refine hw _ _ _ hg ?_
    rw [Nat.zero_add, this]
    simp [strs, hi]
theorem slice_own {w : World} {b e s : Nat} {v : Value} {n : Nat} {xs : List Value} (h : w.ownsRow b e s v n xs) : ∃ ao cp, v = .slice ao n cp := by
  rcases h.2 with ⟨rfl, rfl⟩ | ⟨g, cap, cur, rfl, _⟩
  · exact ⟨none, 0, rfl⟩
  · exact ⟨_, _, rfl⟩
theorem lstI_is {w : World} {a : Option Addr} {cap : Nat} {l : List ByteArray} (h : TextsAt w a l) (hne : l ≠ []) (hz : ∀ t ∈ l, t.size ≤ maxLen) (hl : l.length ≤ 281474976710656) : ItemIs w (.agg #[.int .i64 2, .string ⟨#[]⟩, .slice a l.length cap, .slice none 0 0, .slice none 0 0]) (lstI l) := by
  rw [lstI, if_neg hne]
  exact ⟨⟨a, cap, none, 0, none, 0, rfl, h, .inl rfl, .inl rfl⟩, (show (0 : Nat) ≤ maxLen by simp), hz, by simp, by simp, hl, by simp, by simp⟩

theorem popAt_any (b at_ i : Nat) (t : ByteArray) (w : World) (h : w.cell? ⟨b, 0, none⟩ = some (.int .i64 at_)) : Calls Try.prog 26 #[.int .i64 i, .string t, .pointer (some ⟨b, 0, none⟩)] w fun e w' => e = .returned (.bool (decide (i = at_))) ∧ w' = w := by
  have hd : (((i : Nat) : Int) == ((at_ : Nat) : Int)) = decide (i = at_) := by rw [Bool.eq_iff_iff]; simp; omega
  go_enter Try.func26, Try.ntmps26
  go_wp2_with fail
  go_ret
  rw [← hd]
  exact ⟨rfl, rfl⟩

set_option maxRecDepth 100000 in
set_option maxHeartbeats 2000000 in
theorem withoutP_any (b at_ : Nat) (a : Option Addr) (cap : Nat) (l : List ByteArray) (w : World) (hs : TextsAt w a l) (hn : l.length ≤ 1000) (hz : ∀ t ∈ l, t.size ≤ maxLen) (hc : w.cell? ⟨b, 0, none⟩ = some (.int .i64 at_)) :
    Calls Try.prog 25 #[.slice a l.length cap, .func (.func 26) #[] #[.pointer (some ⟨b, 0, none⟩)]] w fun e w' => ∃ v, e = .returned v ∧ ItemFrom w.heap.size w' v (lstI (keptTo (fun i _ => decide (i = at_)) l l.length)) ∧ Below w.heap.size w w' := by
  obtain ⟨i0, hi, hz0, hz1, hz2⟩ := info_parts infoStr
  have HS := hide hs
  have HZ := hide hz
  clear hs hz
  go_enter Try.func25, Try.ntmps25
  go_wp2_with fail
  generalize hW0 : World.alloc w _ = W0
  have q0 : W0.cell? ⟨w.heap.size, 0, none⟩ = some (.int .i64 0) := by rw [← hW0]; simp [go_sem]
  have q1 : W0.cell? ⟨w.heap.size, 1, none⟩ = some (.string ⟨#[]⟩) := by rw [← hW0]; simp [go_sem]
  have q2 : W0.cell? ⟨w.heap.size, 2, none⟩ = some (.slice none 0 0) := by rw [← hW0]; simp [go_sem]
  have q3 : W0.cell? ⟨w.heap.size, 3, none⟩ = some (.slice none 0 0) := by rw [← hW0]; simp [go_sem]
  have q4 : W0.cell? ⟨w.heap.size, 4, none⟩ = some (.slice none 0 0) := by rw [← hW0]; simp [go_sem]
  have f0 : W0.frozen? ⟨w.heap.size, 0, none⟩ = false := by rw [← hW0]; simp [go_sem]
  have f1 : W0.frozen? ⟨w.heap.size, 1, none⟩ = false := by rw [← hW0]; simp [go_sem]
  have f2 : W0.frozen? ⟨w.heap.size, 2, none⟩ = false := by rw [← hW0]; simp [go_sem]
  have f3 : W0.frozen? ⟨w.heap.size, 3, none⟩ = false := by rw [← hW0]; simp [go_sem]
  have f4 : W0.frozen? ⟨w.heap.size, 4, none⟩ = false := by rw [← hW0]; simp [go_sem]
  have zW : W0.heap.size = w.heap.size + 1 := by rw [← hW0]; simp
  have BW : Below w.heap.size w W0 := by rw [← hW0]; exact (Below.refl _ _).alloc (Nat.le_refl _) _
  clear hW0
  have Q0 := hide q0
  have Q1 := hide q1
  have Q2 := hide q2
  have Q3 := hide q3
  have Q4 := hide q4
  have F0 := hide f0
  have F1 := hide f1
  have F2 := hide f2
  have F3 := hide f3
  have F4 := hide f4
  clear q0 q1 q2 q3 q4 f0 f1 f2 f3 f4
  go_loopw [5, 10] (fun v i wr => ∃ k : Nat, k ≤ l.length ∧ i = .int .i64 k ∧ wr.ownsRow (w.heap.size + 1) 9 1 v (keptTo (fun i _ => decide (i = at_)) l k).length (strs (keptTo (fun i _ => decide (i = at_)) l k)) ∧ Below (w.heap.size + 1) W0 wr) (fun _ i _ => l.length - (intOf i).toNat)
  case atStart => exact ⟨0, Nat.zero_le _, rfl, World.ownsRow_nil _ _ _ _, Below.refl _ _⟩
  case round =>
    obtain ⟨k, hk, rfl, hown, hbr⟩ := hrel
    have hsz := hbr.size
    have BR : Below w.heap.size w wr := BW.trans (hbr.mono (by omega))
    have HB : Hid (∀ g o v, w.cell? ⟨g, o, none⟩ = some v → wr.cell? ⟨g, o, none⟩ = some v) := fun g o _ hv => (BR.cell (p := ⟨g, o, none⟩) (World.block_lt_of_cell? _ _ hv)).trans hv
    by_cases hlt : k < l.length
    · have hlt' : ((k : Nat) : Int) < ((l.length : Nat) : Int) := by omega
      obtain ⟨g, o, rfl, hcs⟩ : ∃ g o, a = some ⟨g, o, none⟩ ∧ ∀ i (h : i < l.length), w.cell? ⟨g, o + i, none⟩ = some (.string l[i]) := by
        rcases HS.out with h | h
        · subst h; simp at hlt
        · exact h
      have d0 : wr.cell? ⟨g, o + k, none⟩ = some (.string l[k]) := HB.out _ _ _ (hcs k hlt)
      have hc1 : wr.cell? ⟨b, 0, none⟩ = some (.int .i64 at_) := HB.out _ _ _ hc
      have HC := hide (popAt_any b at_ k l[k] wr hc1)
      have hkl := keptTo_len (fun i _ => decide (i = at_)) l k
      cases hx : (fun i _ => decide (i = at_)) k l[k] with
      | true =>
        have HY := hide (keptTo_go (goes := fun i _ => decide (i = at_)) hlt hx)
        have HX := hide hx
        clear hcs HS HZ hx HB
        go_wp2_with fail
        refine HC.out.mono ?_
        rintro e w1 ⟨rfl, rfl⟩
        rw [HX.out]
        go_wp2_with fail
        go_roundw
        case rel => exact ⟨k + 1, by omega, by go_num, by rw [HY.out]; exact hown, hbr⟩
        case measure => simp [intOf]; omega
      | false =>
        have HY := hide (keptTo_stay (goes := fun i _ => decide (i = at_)) hlt hx)
        have HX := hide hx
        clear hcs HS HZ hx HB
        generalize l[k] = X at *
        go_wp2_with fail
        refine HC.out.mono ?_
        rintro e w1 ⟨rfl, rfl⟩
        rw [HX.out]
        go_wp2_with (at_builtin; refine wpList_append_own _ rfl _ _ 22 rfl (w.heap.size + 1) 9 i0 (.string ⟨#[]⟩) 1 16 Try.underlying22 hi hz0 hz1 hz2 rfl (by decide) _ _ _ rfl (hown.alloc _) ⟨w1.heap.size, 0, none⟩ 1 1 [.string X] rfl rfl ?c1 ?c2 ?c3 ?c4 ?c5 ?_)
        case c1 =>
          intro j u hj
          match j, hj with
          | 0, hj => simp at hj; subst hj; simp [Addr.add]
        case c2 => intro u hu; simp at hu; subst hu; rfl
        case c3 => unfold maxLen; omega
        case c4 => omega
        case c5 => simp; omega
        intro v' w4 hown4 hgrow _
        have hb4 : Below (w.heap.size + 1) W0 w4 := (hbr.alloc (by omega) _).grown hgrow (by simp; omega) (fun j hj => (hown.lt j hj).1)
        have hown5 : w4.ownsRow (w.heap.size + 1) 9 1 v' (keptTo (fun i _ => decide (i = at_)) l (k + 1)).length (strs (keptTo (fun i _ => decide (i = at_)) l (k + 1))) := by
          rw [HY.out]
          simpa [strs] using hown4
        go_wp2_with fail
        go_roundw
        case rel => exact ⟨k + 1, by omega, by go_num, hown5, hb4⟩
        case measure => simp [intOf]; omega
    · have hge : ¬ ((k : Nat) : Int) < ((l.length : Nat) : Int) := by omega
      obtain rfl : k = l.length := by omega
      have q0 := (hbr.cell (p := ⟨w.heap.size, 0, none⟩) (by simp)).trans Q0.out
      have q1 := (hbr.cell (p := ⟨w.heap.size, 1, none⟩) (by simp)).trans Q1.out
      have q2 := (hbr.cell (p := ⟨w.heap.size, 2, none⟩) (by simp)).trans Q2.out
      have q3 := (hbr.cell (p := ⟨w.heap.size, 3, none⟩) (by simp)).trans Q3.out
      have q4 := (hbr.cell (p := ⟨w.heap.size, 4, none⟩) (by simp)).trans Q4.out
      have f0 := (hbr.frozen (p := ⟨w.heap.size, 0, none⟩) (by simp)).trans F0.out
      have f1 := (hbr.frozen (p := ⟨w.heap.size, 1, none⟩) (by simp)).trans F1.out
      have f2 := (hbr.frozen (p := ⟨w.heap.size, 2, none⟩) (by simp)).trans F2.out
      have f3 := (hbr.frozen (p := ⟨w.heap.size, 3, none⟩) (by simp)).trans F3.out
      have f4 := (hbr.frozen (p := ⟨w.heap.size, 4, none⟩) (by simp)).trans F4.out
      have hkl := keptTo_len (fun i _ => decide (i = at_)) l l.length
      have HM : Hid (∀ t ∈ keptTo (fun i _ => decide (i = at_)) l l.length, t.size ≤ maxLen) := fun t ht => HZ.out t (keptTo_mem (Nat.le_refl _) t ht)
      clear HS HZ HB Q0 Q1 Q2 Q3 Q4 F0 F1 F2 F3 F4
      generalize hK : keptTo (fun i _ => decide (i = at_)) l l.length = K at *
      have HK := hide hK
      clear hK
      obtain ⟨ao, cp, rfl⟩ := slice_own hown
      by_cases h0 : K = []
      · subst h0
        clear hown
        go_wp2_with fail
        refine bodyPost_ret (v := .agg #[.int .i64 0, .string ⟨#[]⟩, .slice none 0 0, .slice none 0 0, .slice none 0 0]) (by simp [results, Try.results25, go_sem, q0, q1, q2, q3, q4]) rfl ⟨_, rfl, ?_, ?_⟩
        · rw [HK.out, lstI, if_pos rfl]; exact fun w'' _ => zero_is w''
        · go_grown
      · have hKl : K.length ≠ 0 := fun e => h0 (List.eq_nil_of_length_eq_zero e)
        have hKb : (((K.length : Nat) : Int) == 0) = false := by rw [beq_eq_false_iff_ne]; omega
        have HT : Hid (∀ w', (∀ g o u, w.heap.size + 1 ≤ g → wr.cell? ⟨g, o, none⟩ = some u → w'.cell? ⟨g, o, none⟩ = some u) → TextsAt w' ao K) := fun w' hw => texts_from hown hw
        clear hown
        have HNE := hide h0
        clear h0
        generalize hLL : K.length = n at *
        go_wp2_with fail
        refine bodyPost_ret (v := .agg #[.int .i64 2, .string ⟨#[]⟩, .slice ao n cp, .slice none 0 0, .slice none 0 0]) (by simp [results, Try.results25, go_sem, q0, q1, q2, q3, q4]) rfl ⟨_, rfl, ?_, ?_⟩
        · subst hLL
          rw [HK.out]
          exact fun w'' hw => lstI_is (HT.out w'' (fun g o u hg hu => hw g o u (by omega) ((five_apart _ _ _ _ _ _ _ g o (by omega)).trans hu))) HNE.out HM.out (by omega)
        · go_grown
end Go.Proofs.Ytolpmaapdkhigac
