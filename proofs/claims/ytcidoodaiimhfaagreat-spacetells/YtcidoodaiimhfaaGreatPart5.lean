/- Part 5 of what the proof leans on: YR3, RNo, YSome, YB, ISame2, YItm, YSame, YSwept, YT0, IOpen, YOpen. -/
import Derived.Test.YtcidoodaiimhfaaGreatPart4
import Derived.BigRegion
import Derived.Laws.OwnMore
import Derived.Handy
import Derived.Test.YtcidoodaiimhfaaGreatPart1
import Derived.Test.YtcidoodaiimhfaaGreatPart3
import Derived.Test.YtcidoodaiimhfaaGreatPart2
import Derived.BigQuiet
import Derived.Deep.RegionHeld3
import Derived.Test.YtcidoodaiimhfaaGreatRows
import Derived.ProofKit
import Derived.OpenShut
import Derived.Deep.Slices
import Derived.SizedLaws
/- WALK of the reference's PutOf. -/
namespace Go.Proofs.YtcidoodaiimhfaaGreat
open Go.RowKit

theorem cellsE_get (y : Ent × Sls) : cellsE y = [.string y.1.key, .int .i64 y.1.item.k, .string y.1.item.t, .slice y.2.1.1 y.1.item.l.length y.2.1.2, .slice y.2.2.1.1 y.1.item.p.length y.2.2.1.2, .slice y.2.2.2.1 y.1.item.s.length y.2.2.2.2, .int .i64 y.1.til] := rfl
theorem rowE_set : ∀ (l : List (Ent × Sls)) (i : Nat) (y : Ent × Sls), i < l.length → (((((((rowE l).set (i * 7) (.string y.1.key)).set (i * 7 + 1) (.int .i64 y.1.item.k)).set (i * 7 + 2) (.string y.1.item.t)).set (i * 7 + 3) (.slice y.2.1.1 y.1.item.l.length y.2.1.2)).set (i * 7 + 4) (.slice y.2.2.1.1 y.1.item.p.length y.2.2.1.2)).set (i * 7 + 5) (.slice y.2.2.2.1 y.1.item.s.length y.2.2.2.2)).set (i * 7 + 6) (.int .i64 y.1.til) = rowE (l.set i y)
  | [], i, y, hi => absurd hi (by simp)
  | a :: r, 0, y, _ => by
    rw [List.set_cons_zero, rowE_cons, rowE_cons]
    rfl
  | a :: r, i + 1, y, hi => by
    rw [List.set_cons_succ, rowE_cons, rowE_cons, ← rowE_set r i y (by simpa using hi)]
    have e : ∀ (j : Nat) (m : List Value) (v : Value), (cellsE a ++ m).set (i * 7 + j + 7) v = cellsE a ++ m.set (i * 7 + j) v := fun j m v => by
      rw [List.set_append_right _ _ (by show 7 ≤ _; omega)]
      congr 2
    have e0 : ∀ (m : List Value) (v : Value), (cellsE a ++ m).set (i * 7 + 7) v = cellsE a ++ m.set (i * 7) v := fun m v => e 0 m v
    rw [show (i + 1) * 7 = i * 7 + 7 by omega, e0]
    rw [show i * 7 + 7 + 1 = i * 7 + 1 + 7 by omega, e 1, show i * 7 + 7 + 2 = i * 7 + 2 + 7 by omega, e 2, show i * 7 + 7 + 3 = i * 7 + 3 + 7 by omega, e 3, show i * 7 + 7 + 4 = i * 7 + 4 + 7 by omega, e 4, show i * 7 + 7 + 5 = i * 7 + 5 + 7 by omega, e 5, show i * 7 + 7 + 6 = i * 7 + 6 + 7 by omega, e 6]
theorem ownE_set {w : World} {base g n cap : Nat} {l : List (Ent × Sls)} (h : w.ownsRow base 45 7 (.slice (some ⟨g, 0, none⟩) n cap) n (rowE l)) (i : Nat) (hi : i < l.length) (y : Ent × Sls) :
    (((((((w.setCell ⟨g, i * 7, none⟩ (.string y.1.key)).setCell ⟨g, i * 7 + 1, none⟩ (.int .i64 y.1.item.k)).setCell ⟨g, i * 7 + 2, none⟩ (.string y.1.item.t)).setCell ⟨g, i * 7 + 3, none⟩ (.slice y.2.1.1 y.1.item.l.length y.2.1.2)).setCell ⟨g, i * 7 + 4, none⟩ (.slice y.2.2.1.1 y.1.item.p.length y.2.2.1.2)).setCell ⟨g, i * 7 + 5, none⟩ (.slice y.2.2.2.1 y.1.item.s.length y.2.2.2.2)).setCell ⟨g, i * 7 + 6, none⟩ (.int .i64 y.1.til)).ownsRow base 45 7 (.slice (some ⟨g, 0, none⟩) n cap) n (rowE (l.set i y)) := by
  have h1 := (((((((h.stored (i * 7) (.string y.1.key)).1.stored (i * 7 + 1) (.int .i64 y.1.item.k)).1.stored (i * 7 + 2) (.string y.1.item.t)).1.stored (i * 7 + 3) (.slice y.2.1.1 y.1.item.l.length y.2.1.2)).1.stored (i * 7 + 4) (.slice y.2.2.1.1 y.1.item.p.length y.2.2.1.2)).1.stored (i * 7 + 5) (.slice y.2.2.2.1 y.1.item.s.length y.2.2.2.2)).1.stored (i * 7 + 6) (.int .i64 y.1.til)).1
  rwa [rowE_set l i y hi] at h1
theorem ownE_at {w : World} {base g n cap : Nat} {l : List (Ent × Sls)} (h : w.ownsRow base 45 7 (.slice (some ⟨g, 0, none⟩) n cap) n (rowE l)) {i : Nat} {y : Ent × Sls} (hi : l[i]? = some y) :
    w.cell? ⟨g, i * 7, none⟩ = some (.string y.1.key) ∧ w.cell? ⟨g, i * 7 + 1, none⟩ = some (.int .i64 y.1.item.k) ∧ w.cell? ⟨g, i * 7 + 2, none⟩ = some (.string y.1.item.t) ∧ w.cell? ⟨g, i * 7 + 3, none⟩ = some (.slice y.2.1.1 y.1.item.l.length y.2.1.2) ∧ w.cell? ⟨g, i * 7 + 4, none⟩ = some (.slice y.2.2.1.1 y.1.item.p.length y.2.2.1.2) ∧ w.cell? ⟨g, i * 7 + 5, none⟩ = some (.slice y.2.2.2.1 y.1.item.s.length y.2.2.2.2) ∧ w.cell? ⟨g, i * 7 + 6, none⟩ = some (.int .i64 y.1.til) := by
  have h1 := h.1
  rw [rowE_len] at h1
  obtain ⟨hl, rfl⟩ := List.getElem?_eq_some_iff.1 hi
  have hg : ∀ j, j < 7 → w.cell? ⟨g, i * 7 + j, none⟩ = (cellsE l[i])[j]? := fun j hj => by
    rw [h.cellAt _ (by omega)]
    exact rowE_get l i j hl hj
  have h0 : w.cell? ⟨g, i * 7, none⟩ = (cellsE l[i])[0]? := hg 0 (by omega)
  exact ⟨h0, hg 1 (by omega), hg 2 (by omega), hg 3 (by omega), hg 4 (by omega), hg 5 (by omega), hg 6 (by omega)⟩
theorem ownE_shape {w : World} {base n : Nat} {v : Value} {l : List (Ent × Sls)} (h : w.ownsRow base 45 7 v n (rowE l)) (hn : 0 < n) : ∃ g cap, v = .slice (some ⟨g, 0, none⟩) n cap ∧ base ≤ g ∧ g < w.heap.size := by
  have hl := h.lt
  rcases h.2 with ⟨_, h0⟩ | ⟨g, cap, cur, h1, hg, -⟩
  · omega
  · subst h1
    exact ⟨g, cap, rfl, hg, (hl g rfl).2⟩
theorem insE_at {M : List (Ent × Sls)} {k : Nat} {p : Ent × Sls} (hk : k < M.length) : (insE M (k + 1) p)[k]? = some M[k] ∧ (insE M (k + 1) p)[k + 1]? = some p := by
  unfold insE
  have hl : (M.take (k + 1)).length = k + 1 := by rw [List.length_take]; omega
  refine ⟨?_, ?_⟩
  · rw [List.getElem?_append_left (by omega), List.getElem?_take, if_pos (by omega)]
    simp [hk]
  · rw [List.getElem?_append_right (by omega), hl]
    simp
theorem insE_swap {M : List (Ent × Sls)} {k : Nat} {p : Ent × Sls} (hk : k < M.length) : ((insE M (k + 1) p).set (k + 1) M[k]).set k p = insE M k p := by
  unfold insE
  have hl : (M.take (k + 1)).length = k + 1 := by rw [List.length_take]; omega
  have hl2 : (M.take k).length = k := by rw [List.length_take]; omega
  rw [List.set_append_right _ _ (by omega), hl, Nat.sub_self, List.set_cons_zero, List.take_succ_eq_append_getElem hk, List.append_assoc, List.set_append_right _ _ (by omega), hl2, Nat.sub_self]
  simp only [List.singleton_append, List.set_cons_zero]
  congr 2
  rw [List.drop_eq_getElem_cons hk]
theorem othersE_take (s : List Ent) (key : ByteArray) (k : Nat) (hk : k < s.length) : othersE (s.take (k + 1)) key = if s[k].key = key then othersE (s.take k) key else othersE (s.take k) key ++ [s[k]] := by
  unfold othersE
  rw [List.take_succ_eq_append_getElem hk, List.filter_append]
  by_cases hq : s[k].key = key <;> simp [hq]
/-- where it stands in the end -/
theorem insE_stands {l : List (Ent × Sls)} {O : List Ent} {y : Ent × Sls} {k : Nat} (hm : l.map Prod.fst = O) (hr : SpRight O) (hne : ∀ x ∈ O, x.key ≠ y.1.key) (hk : k ≤ l.length)
    (hgt : ∀ j (hj : j < l.length), k ≤ j → lessT y.1.key l[j].1.key) (hlo : ∀ m (hm : m < l.length), m + 1 = k → ¬ lessT y.1.key l[m].1.key) : (insE l k y).map Prod.fst = insS O y.1 := by
  refine (PutAt.eq ⟨⟨k, by rw [← hm, List.length_map]; exact hk, ?_, ?_, ?_⟩⟩)
  · rw [insE_map, hm]
  · rcases Nat.eq_zero_or_pos k with rfl | hp
    · simp
    · obtain ⟨m, rfl⟩ : ∃ m, k = m + 1 := ⟨k - 1, by omega⟩
      have hmO : m < O.length := by rw [← hm, List.length_map]; omega
      have e : O[m] = l[m].1 := by subst hm; simp
      refine less_sooner hr.r hmO ?_
      rcases lessT_or O[m].key y.1.key with h | h | h
      · exact h
      · exact absurd h (hne _ (List.getElem_mem hmO))
      · rw [e] at h; exact absurd h (hlo m (by omega) rfl)
  · intro x hx hl
    obtain ⟨j, hj, rfl⟩ := List.getElem_of_mem hx
    rw [List.getElem_drop] at hl
    have hjl : k + j < l.length := by
      have := hj
      rw [List.length_drop, ← hm, List.length_map] at this
      omega
    have e : O[k + j]'(by rw [← hm, List.length_map]; exact hjl) = l[k + j].1 := by subst hm; simp
    rw [e] at hl
    exact lessT_irrefl _ (lessT_trans hl (hgt (k + j) hjl (by omega)))
theorem sweep_ins {O : List Ent} {e : Ent} {now : Int} (hr : SpRight O) (hg : goneE e now = false) : sweepS (insS O e) now = insS (sweepS O now) e := by
  have h1 : ∀ x ∈ O.takeWhile (fun x => decide (lessT x.key e.key)), lessT x.key e.key := fun x hx => by have := mem_takeWhile_p hx; simpa using this
  have h2 : ∀ x ∈ O.dropWhile (fun x => decide (lessT x.key e.key)), ¬ lessT x.key e.key := by
    intro x hx
    cases hd : O.dropWhile (fun x => decide (lessT x.key e.key)) with
    | nil => rw [hd] at hx; cases hx
    | cons b B =>
      have hb : ¬ lessT b.key e.key := by
        have := List.head?_dropWhile_not (fun x : Ent => decide (lessT x.key e.key)) O
        rw [hd] at this
        simpa using this
      have hr2 := hr.r.sublist (List.dropWhile_sublist (fun x : Ent => decide (lessT x.key e.key)))
      rw [hd] at hx hr2
      rcases List.mem_cons.1 hx with rfl | hx
      · exact hb
      · exact fun hl => hb (lessT_trans ((List.pairwise_cons.1 hr2).1 x hx) hl)
  have hO := List.takeWhile_append_dropWhile (p := fun x : Ent => decide (lessT x.key e.key)) (l := O)
  have e1 : sweepS O now = (O.takeWhile (fun x => decide (lessT x.key e.key))).filter (fun x => !goneE x now) ++ (O.dropWhile (fun x => decide (lessT x.key e.key))).filter (fun x => !goneE x now) := by
    unfold sweepS
    rw [← List.filter_append, hO]
  obtain ⟨t1, t2⟩ := takeWhile_of (p := fun x : Ent => decide (lessT x.key e.key)) (A := (O.takeWhile (fun x => decide (lessT x.key e.key))).filter (fun x => !goneE x now)) (B := (O.dropWhile (fun x => decide (lessT x.key e.key))).filter (fun x => !goneE x now)) (fun x hx => decide_eq_true (h1 x (List.mem_filter.1 hx).1)) (fun x hx => decide_eq_false (h2 x (List.mem_filter.1 hx).1))
  rw [← e1] at t1 t2
  conv => rhs; unfold insS; rw [t1, t2]
  unfold sweepS insS
  rw [List.filter_append, List.filter_cons, if_pos (by simp [hg])]
/-- a space and an errno are answered -/
def RefPost (P : List Ent) (E : Int) (w : World) (e : Ending) (w' : World) : Prop := (∃ ao co, e = .returned (.tuple #[.slice ao P.length co, .int .i64 E]) ∧ SpaceAt w' ao P) ∧ Below w.heap.size w w'
theorem refPost_of {P Q : List Ent} {E F : Int} {w w' : World} {ao : Option Addr} {n co : Nat} (hP : Q = P) (hE : F = E) (hn : n = Q.length) (hs : SpaceAt w' ao Q) (hb : Below w.heap.size w w') : RefPost P E w (.returned (.tuple #[.slice ao n co, .int .i64 F])) w' := by
  subst hP hE hn
  exact ⟨⟨ao, co, rfl, hs⟩, hb⟩
theorem putS_full {s : List Ent} {now : Int} {key : ByteArray} {x : Itm} {til : Int} (he : putErr s now key x til = 0) (hn : x.isNone = false) :
    putS s now key x til = (if 16 ≤ (roomE (othersE s key) now).length then [] else insS (roomE (othersE s key) now) ⟨key, x, til⟩) ∧ putE s now key x til = (if 16 ≤ (roomE (othersE s key) now).length then 2 else 0) := by
  refine ⟨?_, ?_⟩
  · unfold putS; rw [if_neg (by simp [he]), if_neg (by simp [hn])]
  · unfold putE; rw [if_neg (by simp [he]), if_neg (by simp [hn])]
set_option maxRecDepth 100000 in
set_option maxHeartbeats 8000000 in
theorem putOf_any (a : Option Addr) (c : Nat) (s : List Ent) (now : Int) (key : ByteArray) (v : Value) (x : Itm) (til : Int) (w : World) (hs : SpaceAt w a s) (hx : ItemIs w v x) (he : putErr s now key x til = 0) :
    Calls Tryz.prog 16 #[.slice a s.length c, .int .i64 now, .string key, v, .int .i64 til] w (RefPost (putS s now key x til) (putE s now key x til) w) := by
  obtain ⟨iE, hi, hz0, hzE, hz2⟩ := info_parts infoEnt
  obtain ⟨hck, hrx, htb⟩ := putErr_zero he
  have hsr := spRight (chkSp_chkAt (chkAt_chkKey hck).1).1
  have hn := hsr.n
  have hkl : key.size ≤ 60 := by
    have := (chkAt_chkKey hck).2
    unfold longT at this
    rw [decide_eq_false_iff_not] at this
    omega
  have hkz : key.size ≤ maxLen := Nat.le_trans hkl (by unfold maxLen; omega)
  have hng : goneE ⟨key, x, til⟩ now = false := by
    unfold tilBad at htb
    rw [decide_eq_false_iff_not] at htb
    unfold goneE
    rw [decide_eq_false_iff_not]
    simp only
    omega
  obtain ⟨p1, q1, p2, q2, p3, q3, rfl, -, -, -⟩ := hx.ex
  obtain ⟨W1, hW1⟩ : ∃ W1, w.alloc (.cells #[.int .i64 x.k, .string x.t, .slice p1 x.l.length q1, .slice p2 x.p.length q2, .slice p3 x.s.length q3] 28) = W1 := ⟨_, rfl⟩
  have B1 : Below w.heap.size w W1 := hW1 ▸ (Below.refl _ w).alloc (Nat.le_refl _) _
  have X1 : W1.heap[w.heap.size]? = some (.cells #[.int .i64 x.k, .string x.t, .slice p1 x.l.length q1, .slice p2 x.p.length q2, .slice p3 x.s.length q3] 28 (0, 0)) := hW1 ▸ allocY_new w _
  have hxl : w.heap.size < W1.heap.size := (Array.getElem?_eq_some_iff.1 X1).1
  have HS := hide (hs.below B1)
  have HX := hide (hx.below B1)
  have HBX : Hid (∀ W, Below W1.heap.size W1 W → W.heap[w.heap.size]? = some (.cells #[.int .i64 x.k, .string x.t, .slice p1 x.l.length q1, .slice p2 x.p.length q2, .slice p3 x.s.length q3] 28 (0, 0))) := fun W hW => (hW.block _ hxl).trans X1
  have HPW : Hid (∀ W, Below W1.heap.size W1 W → Below w.heap.size w W) := fun W hW => B1.trans (hW.mono (Nat.le_of_lt hxl))
  have HSR := hide hsr
  have HRX := hide (And.intro hrx (And.intro he hng))
  clear hs hx B1 hck hrx htb hsr he hng hkl
  go_enter Tryz.func16, Tryz.ntmps16
  go_wp2_with fail
  go_loopw [12, 13] (fun V iv wr => ∃ (k : Nat) (l : List (Ent × Sls)), k ≤ s.length ∧ iv = .int .i64 k ∧ l.length ≤ k ∧ Hid (l.map Prod.fst = othersE (s.take k) key) ∧ RefSp W1.heap.size W1 wr V l ∧ Below W1.heap.size W1 wr) (fun _ iv _ => s.length - (intOf iv).toNat)
  case atStart => exact ⟨0, [], Nat.zero_le _, rfl, Nat.le_refl _, rfl, ⟨World.ownsRow_nil _ _ _ _, by simp⟩, Below.refl _ _⟩
  case round =>
    clear hW1 X1 hxl
    obtain ⟨k, l, hk, rfl, hlk, HL, hown, hbr⟩ := hrel
    have hsz := hbr.size
    by_cases hlt : k < s.length
    · have hlt' : ((k : Nat) : Int) < ((s.length : Nat) : Int) := by omega
      obtain ⟨ga, o, rfl, hcs⟩ : ∃ ga o, a = some ⟨ga, o, none⟩ ∧ ∀ i (h : i < s.length), EntAt W1 ga (o + i * 7) s[i] := by
        rcases HS.out with h | h
        · rw [h] at hlt; simp at hlt
        · exact h
      obtain ⟨a1, c1, a2, c2, a3, c3, ⟨d0, d1, d2, d3, d4, d5, d6⟩, hi2⟩ := (hcs k hlt).below hbr
      have hiw : ItemIs W1 (.agg #[.int .i64 s[k].item.k, .string s[k].item.t, .slice a1 s[k].item.l.length c1, .slice a2 s[k].item.p.length c2, .slice a3 s[k].item.s.length c3]) s[k].item := by
        obtain ⟨x1, y1, x2, y2, x3, y3, ⟨k0, k1, k2, k3, k4, k5, k6⟩, hh⟩ := hcs k hlt
        have hgl : ga < W1.heap.size := World.block_lt_of_cell? _ _ k0
        have u3 := ((hbr.cell (p := ⟨ga, o + k * 7 + 3, none⟩) hgl).trans k3).symm.trans d3
        have u4 := ((hbr.cell (p := ⟨ga, o + k * 7 + 4, none⟩) hgl).trans k4).symm.trans d4
        have u5 := ((hbr.cell (p := ⟨ga, o + k * 7 + 5, none⟩) hgl).trans k5).symm.trans d5
        injection u3 with u3
        injection u4 with u4
        injection u5 with u5
        injection u3 with p1 p2 p3
        injection u4 with p4 p5 p6
        injection u5 with p7 p8 p9
        subst p1 p3 p4 p6 p7 p9
        exact hh
      have hgl : ga < wr.heap.size := World.block_lt_of_cell? _ _ d0
      have HST := hide (othersE_take s key k hlt)
      clear hcs hi2
      generalize s[k] = X at *
      have hbq := beq_fdY X.key key
      by_cases hke : X.key = key
      · rw [decide_eq_true hke] at hbq
        have HN : Hid (l.map Prod.fst = othersE (s.take (k + 1)) key) := by rw [Hid, HST.out, if_pos hke]; exact HL.out
        clear hke HST HL hiw
        go_wp2_with fail
        go_roundw
        case rel => exact ⟨k + 1, l, by omega, by go_num, by omega, HN.out, hown, hbr⟩
        case measure => simp [intOf]; omega
      · rw [decide_eq_false hke] at hbq
        have HN : Hid (∀ q : Sls, (l ++ [(X, q)]).map Prod.fst = othersE (s.take (k + 1)) key) := fun q => by rw [HST.out, if_neg hke, ← HL.out]; simp
        clear hke HST HL
        obtain ⟨W3, hW3⟩ : ∃ W3, wr.alloc (.cells #[.string X.key, .int .i64 X.item.k, .string X.item.t, .slice a1 X.item.l.length c1, .slice a2 X.item.p.length c2, .slice a3 X.item.s.length c3, .int .i64 X.til] 45) = W3 := ⟨_, rfl⟩
        have A3 : W3.heap[wr.heap.size]? = some (.cells #[.string X.key, .int .i64 X.item.k, .string X.item.t, .slice a1 X.item.l.length c1, .slice a2 X.item.p.length c2, .slice a3 X.item.s.length c3, .int .i64 X.til] 45 (0, 0)) := hW3 ▸ allocY_new wr _
        have R3 : W3.ownsRow W1.heap.size 45 7 _ l.length (rowE l) := hW3 ▸ hown.row.alloc _
        have C3 : Below W1.heap.size W1 W3 := hW3 ▸ hbr.alloc hbr.size _
        go_wp2_with (at_builtin; refine wpList_append_own _ rfl _ _ 23 rfl W1.heap.size 45 iE (.agg #[.string ⟨#[]⟩, .int .i64 0, .string ⟨#[]⟩, .slice none 0 0, .slice none 0 0, .slice none 0 0, .int .i64 0]) 7 120 Tryz.underlying23 hi hz0 hzE hz2 rfl (by decide) _ _ _ rfl R3 ⟨wr.heap.size, 0, none⟩ 1 1 [.string X.key, .int .i64 X.item.k, .string X.item.t, .slice a1 X.item.l.length c1, .slice a2 X.item.p.length c2, .slice a3 X.item.s.length c3, .int .i64 X.til] rfl rfl (cells_at A3) (cellsE_one (X, ((a1, c1), (a2, c2), (a3, c3)))) (by unfold maxLen; omega) (by omega) C3.size ?_)
        intro v5 w5 hown5 hgrow _
        have C5 : Below W1.heap.size W1 w5 := C3.grown hgrow C3.size (fun j hj => (R3.lt j hj).1)
        have O5 : RefSp W1.heap.size W1 w5 v5 (l ++ [(X, ((a1, c1), (a2, c2), (a3, c3)))]) := ⟨by simpa [rowE_snoc, cellsE] using hown5, fun y hy => by
          rcases List.mem_append.1 hy with hy | hy
          · exact hown.its y hy
          · rw [List.mem_singleton.1 hy]; exact hiw⟩
        clear hown hown5 hgrow R3 A3 C3 hW3 hiw d0 d1 d2 d3 d4 d5 d6
        go_wp2_with fail
        go_roundw
        case rel => exact ⟨k + 1, _, by omega, by go_num, by simp; omega, HN.out _, O5, C5⟩
        case measure => simp [intOf]; omega
    · have hge : ¬ ((k : Nat) : Int) < ((s.length : Nat) : Int) := by omega
      obtain rfl : k = s.length := by omega
      rw [List.take_length] at HL
      have g1 := HBX.out wr hbr
      have x0 : wr.cell? ⟨w.heap.size, 0, none⟩ = some (.int .i64 x.k) := by simp [World.cell?, g1]
      have x1 : wr.cell? ⟨w.heap.size, 1, none⟩ = some (.string x.t) := by simp [World.cell?, g1]
      have x2 : wr.cell? ⟨w.heap.size, 2, none⟩ = some (.slice p1 x.l.length q1) := by simp [World.cell?, g1]
      have x3 : wr.cell? ⟨w.heap.size, 3, none⟩ = some (.slice p2 x.p.length q2) := by simp [World.cell?, g1]
      have x4 : wr.cell? ⟨w.heap.size, 4, none⟩ = some (.slice p3 x.s.length q3) := by simp [World.cell?, g1]
      clear g1
      cases hnn : x.isNone with
      | true =>
        have hk0 : x.k = 0 := by rw [isNone_eq hnn]; rfl
        obtain ⟨ao, co, rfl, hsp⟩ := hown.at hbr
        have HE : Hid (RefPost (putS s now key x til) (putE s now key x til) w (.returned (.tuple #[.slice ao l.length co, .int .i64 0])) wr) := by
          obtain ⟨-, he, -⟩ := HRX.out
          refine refPost_of (Q := l.map Prod.fst) ?_ ?_ (by rw [List.length_map]) hsp (HPW.out wr hbr)
          · rw [HL.out]; unfold putS; rw [if_neg (by simp [he]), if_pos hnn]
          · unfold putE; rw [if_neg (by simp [he]), if_pos hnn]
        clear hown hsp hnn HL
        go_wp2_with fail
        refine bodyPost_ret (v := .tuple #[.slice ao l.length co, .int .i64 0]) (by simp [results, Tryz.results16, go_sem]) rfl HE.out
      | false =>
        have hci : chkI x = 0 := by
          have := HRX.out.1
          unfold rightI at this
          rwa [hnn, if_neg (by decide)] at this
        have hk0 : (x.k == 0) = false := by
          have := (right_of hci).k1
          rw [beq_eq_false_iff_ne]
          omega
        have hln : l.length ≤ 16 := by
          have h1 := congrArg List.length HL.out
          have h2 := (othersE_right HSR.out key).n
          rw [List.length_map] at h1
          omega
        have HPF := hide (putS_full HRX.out.2.1 hnn)
        have HOR := hide (othersE_right HSR.out key)
        have HNE : Hid (∀ y ∈ othersE s key, y.key ≠ key) := fun y hy => (othersE_mem.1 hy).2
        obtain ⟨O, hO⟩ : ∃ O, othersE s key = O := ⟨_, rfl⟩
        rw [hO] at HL HPF HOR HNE
        have hOl : O.length = l.length := by rw [← HL.out, List.length_map]
        have HOL := hide hOl
        clear hnn hci hO hOl
        obtain ⟨W3, hW3⟩ : ∃ W3, wr.alloc (.cells #[.string key, .int .i64 x.k, .string x.t, .slice p1 x.l.length q1, .slice p2 x.p.length q2, .slice p3 x.s.length q3, .int .i64 til] 45) = W3 := ⟨_, rfl⟩
        have A3 : W3.heap[wr.heap.size]? = some (.cells #[.string key, .int .i64 x.k, .string x.t, .slice p1 x.l.length q1, .slice p2 x.p.length q2, .slice p3 x.s.length q3, .int .i64 til] 45 (0, 0)) := hW3 ▸ allocY_new wr _
        have R3 : W3.ownsRow W1.heap.size 45 7 _ l.length (rowE l) := hW3 ▸ hown.row.alloc _
        have C3 : Below W1.heap.size W1 W3 := hW3 ▸ hbr.alloc hbr.size _
        go_wp2_with (at_builtin; refine wpList_append_own _ rfl _ _ 23 rfl W1.heap.size 45 iE (.agg #[.string ⟨#[]⟩, .int .i64 0, .string ⟨#[]⟩, .slice none 0 0, .slice none 0 0, .slice none 0 0, .int .i64 0]) 7 120 Tryz.underlying23 hi hz0 hzE hz2 rfl (by decide) _ _ _ rfl R3 ⟨wr.heap.size, 0, none⟩ 1 1 [.string key, .int .i64 x.k, .string x.t, .slice p1 x.l.length q1, .slice p2 x.p.length q2, .slice p3 x.s.length q3, .int .i64 til] rfl rfl (cells_at A3) (cellsE_one (⟨key, x, til⟩, ((p1, q1), (p2, q2), (p3, q3)))) (by unfold maxLen; omega) (by omega) C3.size ?_)
        intro v5 w5 hown5 hgrow _
        have C5 : Below W1.heap.size W1 w5 := C3.grown hgrow C3.size (fun j hj => (R3.lt j hj).1)
        have HIT : Hid (∀ y ∈ insE l l.length (⟨key, x, til⟩, ((p1, q1), (p2, q2), (p3, q3))), ItemIs W1 (itemV y.1.item y.2) y.1.item) := fun y hy => by
          rcases insE_mem hy with rfl | hy
          · exact HX.out
          · exact hown.its y hy
        have R5 : w5.ownsRow W1.heap.size 45 7 v5 (l.length + 1) (rowE (insE l l.length (⟨key, x, til⟩, ((p1, q1), (p2, q2), (p3, q3))))) := by
          rw [insE_row, List.take_length, List.drop_length]
          exact hown5
        clear hown hown5 hgrow R3 A3 C3 hW3 x0 x1 x2 x3 x4
        obtain ⟨g, cap, rfl, hg1, hg2⟩ := ownE_shape R5 (by omega)
        have hn1 : ((l.length : Nat) : Int) + 1 - 1 = ((l.length : Nat) : Int) := by omega
        go_wp2_with fail
        go_loopw [14] (fun kv wr5 => ∃ k : Nat, k ≤ l.length ∧ kv = .int .i64 k ∧ wr5.ownsRow W1.heap.size 45 7 (.slice (some ⟨g, 0, none⟩) (l.length + 1) cap) (l.length + 1) (rowE (insE l k (⟨key, x, til⟩, ((p1, q1), (p2, q2), (p3, q3))))) ∧ Below W1.heap.size W1 wr5 ∧ Hid (∀ j (hj : j < l.length), k ≤ j → lessT key l[j].1.key)) (fun kv _ => (intOf kv).toNat)
        case atStart => exact ⟨l.length, Nat.le_refl _, by go_num, R5, C5, fun j hj h => absurd h (by omega)⟩
        case round =>
          clear R5 C5 hg2
          obtain ⟨k, hk, rfl, hown6, hb6, HGT⟩ := hrel
          by_cases hk0 : k = 0
          · subst hk0
            have HEQ : Hid ((insE l 0 (⟨key, x, til⟩, ((p1, q1), (p2, q2), (p3, q3)))).map Prod.fst = insS O ⟨key, x, til⟩) := insE_stands HL.out HOR.out HNE.out (Nat.zero_le _) HGT.out (fun m _ h => absurd h (by omega))
            clear HGT
            go_wp2_with fail
            go_quiet (fail)
            have C6 : Below W1.heap.size W1 (wr.drewN nq) := below_drewN' hb6 nq
            have R6 : (wr.drewN nq).ownsRow W1.heap.size 45 7 (.slice (some ⟨g, 0, none⟩) (l.length + 1) cap) (l.length + 1) (rowE (insE l 0 (⟨key, x, til⟩, ((p1, q1), (p2, q2), (p3, q3))))) := (Kept.of_below (below_drewN' (Below.refl wr.heap.size wr) nq) (fun _ => False)).owns hown6 (fun _ _ e => e)
            have hil : (insE l 0 (⟨key, x, til⟩, ((p1, q1), (p2, q2), (p3, q3)))).length = l.length + 1 := insE_len _ _ _ (by omega)
            have HSPC : Hid (SpaceAt (wr.drewN nq) (some ⟨g, 0, none⟩) (insS O ⟨key, x, til⟩)) := by
              have h : RefSp W1.heap.size W1 (wr.drewN nq) (.slice (some ⟨g, 0, none⟩) (l.length + 1) cap) (insE l 0 (⟨key, x, til⟩, ((p1, q1), (p2, q2), (p3, q3)))) := ⟨by rw [hil]; exact R6, fun y hy => by
                rcases insE_mem hy with rfl | hy
                · exact HX.out
                · exact HIT.out y (by rw [insE, List.mem_append]; exact .inl (by rw [List.take_length]; exact hy))⟩
              obtain ⟨a9, c9, he, hsp⟩ := h.at C6
              injection he with h1 h2 h3
              subst h1
              rw [HEQ.out] at hsp
              exact hsp
            have HIL : Hid ((insS O ⟨key, x, til⟩).length = l.length + 1) := by rw [Hid, insS_len, HOL.out]
            clear R6 hown6 hil
            generalize wr.drewN nq = wq at *
            by_cases h16 : 16 < l.length + 1
            · have h16' : (16 : Int) < ((l.length : Nat) : Int) + 1 := by omega
              have HSO : Hid (Calls Tryz.prog 18 #[.slice (some ⟨g, 0, none⟩) (l.length + 1) cap, .int .i64 now] wq fun e w' => (∃ ao co, e = .returned (.slice ao (sweepS (insS O ⟨key, x, til⟩) now).length co) ∧ SpaceAt w' ao (sweepS (insS O ⟨key, x, til⟩) now)) ∧ Below wq.heap.size wq w') := by
                have := sweepOf_any (some ⟨g, 0, none⟩) cap (insS O ⟨key, x, til⟩) now wq HSPC.out (by rw [HIL.out]; omega)
                rw [HIL.out] at this
                exact this
              obtain ⟨Q, hQ⟩ : ∃ Q, sweepS (insS O ⟨key, x, til⟩) now = Q := ⟨_, rfl⟩
              have HQ : Hid (Q = insS (sweepS O now) ⟨key, x, til⟩) := by rw [Hid, ← hQ]; exact sweep_ins HOR.out HRX.out.2.2
              rw [hQ] at HSO
              have HRM : Hid (roomE O now = sweepS O now) := by rw [Hid]; unfold roomE; rw [if_pos (by rw [HOL.out]; omega)]; rfl
              clear hQ HSPC
              go_wp2_with fail
              refine HSO.out.mono ?_
              rintro e w7 ⟨⟨ao, co, rfl, hsp⟩, hb7⟩
              have C7 := C6.trans (hb7.mono C6.size)
              have HSP7 := hide hsp
              clear hb7 HSO hsp
              have HQL : Hid (Q.length = (sweepS O now).length + 1) := by rw [Hid, HQ.out, insS_len]
              by_cases h17 : 16 < Q.length
              · have h17' : (16 : Int) < ((Q.length : Nat) : Int) := by omega
                have HE : Hid (RefPost (putS s now key x til) (putE s now key x til) w (.returned (.tuple #[.slice none 0 0, .int .i64 2])) w7) := by
                  obtain ⟨e1, e2⟩ := HPF.out
                  have hQl := HQL.out
                  rw [HRM.out, if_pos (by omega)] at e1 e2
                  exact refPost_of (Q := []) e1.symm e2.symm rfl (.inl rfl) (HPW.out _ C7)
                go_wp2_with fail
                refine bodyPost_ret (v := .tuple #[.slice none 0 0, .int .i64 2]) (by simp [results, Tryz.results16, go_sem]) rfl HE.out
              · have h17' : ¬ (16 : Int) < ((Q.length : Nat) : Int) := by omega
                have HE : Hid (RefPost (putS s now key x til) (putE s now key x til) w (.returned (.tuple #[.slice ao Q.length co, .int .i64 0])) w7) := by
                  obtain ⟨e1, e2⟩ := HPF.out
                  have hQl := HQL.out
                  rw [HRM.out, if_neg (by omega)] at e1 e2
                  exact refPost_of (Q := Q) (by rw [e1, HQ.out]) e2.symm rfl HSP7.out (HPW.out _ C7)
                go_wp2_with fail
                refine bodyPost_ret (v := .tuple #[.slice ao Q.length co, .int .i64 0]) (by simp [results, Tryz.results16, go_sem]) rfl HE.out
            · have h16' : ¬ (16 : Int) < ((l.length : Nat) : Int) + 1 := by omega
              have HE : Hid (RefPost (putS s now key x til) (putE s now key x til) w (.returned (.tuple #[.slice (some ⟨g, 0, none⟩) (l.length + 1) cap, .int .i64 0])) wq) := by
                obtain ⟨e1, e2⟩ := HPF.out
                have hr : roomE O now = O := by unfold roomE; rw [if_neg (by rw [HOL.out]; omega)]
                rw [hr, if_neg (by rw [HOL.out]; omega)] at e1 e2
                exact refPost_of (Q := insS O ⟨key, x, til⟩) e1.symm e2.symm HIL.out.symm HSPC.out (HPW.out _ C6)
              clear HSPC
              go_wp2_with fail
              refine bodyPost_ret (v := .tuple #[.slice (some ⟨g, 0, none⟩) (l.length + 1) cap, .int .i64 0]) (by simp [results, Tryz.results16, go_sem]) rfl HE.out
          · obtain ⟨m, rfl⟩ : ∃ m, k = m + 1 := ⟨k - 1, by omega⟩
            have hm : m < l.length := by omega
            obtain ⟨i0, i1⟩ := insE_at (p := (⟨key, x, til⟩, ((p1, q1), (p2, q2), (p3, q3)))) hm
            obtain ⟨y0, y1, y2, y3, y4, y5, y6⟩ := ownE_at hown6 i0
            obtain ⟨z0, z1, z2, z3, z4, z5, z6⟩ := ownE_at hown6 i1
            dsimp only at z0 z1 z2 z3 z4 z5 z6
            have hfz := fun j => hown6.frozenAt j
            have HCT : Hid (∀ W, Calls Tryz.prog 65 #[.string key, .string l[m].1.key] W fun e w' => e = .returned (.int .i64 (cmpT key l[m].1.key)) ∧ ∃ z, w' = W.drewN z) := fun W => textOrder_any key l[m].1.key W hkz
            clear i0 i1
            obtain ⟨C, hC⟩ : ∃ C, C = cmpT key l[m].1.key := ⟨_, rfl⟩
            rw [← hC] at HCT
            have HCL : Hid (C < 0 ↔ lessT key l[m].1.key) := by rw [Hid, hC]; exact cmpT_lt _ _
            have HSW := hide (insE_swap (p := (⟨key, x, til⟩, ((p1, q1), (p2, q2), (p3, q3)))) hm)
            have hm1 : ((m : Nat) : Int) < ((l.length : Nat) : Int) := by omega
            have hm0 : (0 : Int) < ((m : Nat) : Int) + 1 := by omega
            clear hC
            by_cases hless : C < 0
            · have HGT2 : Hid (∀ j (hj : j < l.length), m ≤ j → lessT key l[j].1.key) := fun j hj h => by
                by_cases e : j = m
                · subst e; exact HCL.out.1 hless
                · exact HGT.out j hj (by omega)
              obtain ⟨Y, hY⟩ : ∃ Y, Y = l[m] := ⟨_, rfl⟩
              rw [← hY] at y0 y1 y2 y3 y4 y5 y6 HCT HSW
              clear hY HGT HCL
              have HWS : Hid (∀ z, ((((((((((((((((wr.drewN z).setCell ⟨g, (m + 1) * 7, none⟩ (.string Y.1.key)).setCell ⟨g, (m + 1) * 7 + 1, none⟩ (.int .i64 Y.1.item.k)).setCell ⟨g, (m + 1) * 7 + 2, none⟩ (.string Y.1.item.t)).setCell ⟨g, (m + 1) * 7 + 3, none⟩ (.slice Y.2.1.1 Y.1.item.l.length Y.2.1.2)).setCell ⟨g, (m + 1) * 7 + 4, none⟩ (.slice Y.2.2.1.1 Y.1.item.p.length Y.2.2.1.2)).setCell ⟨g, (m + 1) * 7 + 5, none⟩ (.slice Y.2.2.2.1 Y.1.item.s.length Y.2.2.2.2)).setCell ⟨g, (m + 1) * 7 + 6, none⟩ (.int .i64 Y.1.til)).setCell ⟨g, m * 7, none⟩ (.string key)).setCell ⟨g, m * 7 + 1, none⟩ (.int .i64 x.k)).setCell ⟨g, m * 7 + 2, none⟩ (.string x.t)).setCell ⟨g, m * 7 + 3, none⟩ (.slice p1 x.l.length q1)).setCell ⟨g, m * 7 + 4, none⟩ (.slice p2 x.p.length q2)).setCell ⟨g, m * 7 + 5, none⟩ (.slice p3 x.s.length q3)).setCell ⟨g, m * 7 + 6, none⟩ (.int .i64 til))).ownsRow W1.heap.size 45 7 (.slice (some ⟨g, 0, none⟩) (l.length + 1) cap) (l.length + 1) (rowE (insE l m (⟨key, x, til⟩, ((p1, q1), (p2, q2), (p3, q3))))) ∧ Below W1.heap.size W1 ((((((((((((((((wr.drewN z).setCell ⟨g, (m + 1) * 7, none⟩ (.string Y.1.key)).setCell ⟨g, (m + 1) * 7 + 1, none⟩ (.int .i64 Y.1.item.k)).setCell ⟨g, (m + 1) * 7 + 2, none⟩ (.string Y.1.item.t)).setCell ⟨g, (m + 1) * 7 + 3, none⟩ (.slice Y.2.1.1 Y.1.item.l.length Y.2.1.2)).setCell ⟨g, (m + 1) * 7 + 4, none⟩ (.slice Y.2.2.1.1 Y.1.item.p.length Y.2.2.1.2)).setCell ⟨g, (m + 1) * 7 + 5, none⟩ (.slice Y.2.2.2.1 Y.1.item.s.length Y.2.2.2.2)).setCell ⟨g, (m + 1) * 7 + 6, none⟩ (.int .i64 Y.1.til)).setCell ⟨g, m * 7, none⟩ (.string key)).setCell ⟨g, m * 7 + 1, none⟩ (.int .i64 x.k)).setCell ⟨g, m * 7 + 2, none⟩ (.string x.t)).setCell ⟨g, m * 7 + 3, none⟩ (.slice p1 x.l.length q1)).setCell ⟨g, m * 7 + 4, none⟩ (.slice p2 x.p.length q2)).setCell ⟨g, m * 7 + 5, none⟩ (.slice p3 x.s.length q3)).setCell ⟨g, m * 7 + 6, none⟩ (.int .i64 til)))) := fun z => by
                have ho := (Kept.of_below (below_drewN' (Below.refl wr.heap.size wr) z) (fun _ => False)).owns hown6 (fun _ _ e => e)
                have h1 := ownE_set ho (m + 1) (by rw [insE_len _ _ _ (by omega)]; omega) Y
                have h2 := ownE_set h1 m (by rw [List.length_set, insE_len _ _ _ (by omega)]; omega) (⟨key, x, til⟩, ((p1, q1), (p2, q2), (p3, q3)))
                rw [HSW.out] at h2
                exact ⟨h2, (((((((((((((((below_drewN' hb6 z).setCell (p := ⟨g, (m + 1) * 7, none⟩) hg1 _).setCell (p := ⟨g, (m + 1) * 7 + 1, none⟩) hg1 _).setCell (p := ⟨g, (m + 1) * 7 + 2, none⟩) hg1 _).setCell (p := ⟨g, (m + 1) * 7 + 3, none⟩) hg1 _).setCell (p := ⟨g, (m + 1) * 7 + 4, none⟩) hg1 _).setCell (p := ⟨g, (m + 1) * 7 + 5, none⟩) hg1 _).setCell (p := ⟨g, (m + 1) * 7 + 6, none⟩) hg1 _).setCell (p := ⟨g, m * 7, none⟩) hg1 _).setCell (p := ⟨g, m * 7 + 1, none⟩) hg1 _).setCell (p := ⟨g, m * 7 + 2, none⟩) hg1 _).setCell (p := ⟨g, m * 7 + 3, none⟩) hg1 _).setCell (p := ⟨g, m * 7 + 4, none⟩) hg1 _).setCell (p := ⟨g, m * 7 + 5, none⟩) hg1 _).setCell (p := ⟨g, m * 7 + 6, none⟩) hg1 _)⟩
              have fz0 := hfz ((m + 1) * 7)
              have fz1 := hfz ((m + 1) * 7 + 1)
              have fz2 := hfz ((m + 1) * 7 + 2)
              have fz3 := hfz ((m + 1) * 7 + 3)
              have fz4 := hfz ((m + 1) * 7 + 4)
              have fz5 := hfz ((m + 1) * 7 + 5)
              have fz6 := hfz ((m + 1) * 7 + 6)
              have fz7 := hfz (m * 7)
              have fz8 := hfz (m * 7 + 1)
              have fz9 := hfz (m * 7 + 2)
              have fz10 := hfz (m * 7 + 3)
              have fz11 := hfz (m * 7 + 4)
              have fz12 := hfz (m * 7 + 5)
              have fz13 := hfz (m * 7 + 6)
              clear hown6 HSW hfz
              generalize Y.1.key = Y0 at *
              generalize Y.1.item.k = Y1 at *
              generalize Y.1.item.t = Y2 at *
              generalize Y.2.1.1 = A3 at *
              generalize Y.1.item.l.length = N3 at *
              generalize Y.2.1.2 = C3 at *
              generalize Y.2.2.1.1 = A4 at *
              generalize Y.1.item.p.length = N4 at *
              generalize Y.2.2.1.2 = C4 at *
              generalize Y.2.2.2.1 = A5 at *
              generalize Y.1.item.s.length = N5 at *
              generalize Y.2.2.2.2 = C5 at *
              generalize Y.1.til = Y6 at *
              go_wp2_with fail
              go_quiet ((go_at_call 65; exact Calls.quiet_of (HCT.out _)))
              go_wp2_with fail
              go_region
              have HW2 := hide (HWS.out (nq + 1))
              clear HWS
              generalize (((((((((((((((wr.drewN (nq + 1)).setCell ⟨g, (m + 1) * 7, none⟩ (.string Y0)).setCell ⟨g, (m + 1) * 7 + 1, none⟩ (.int .i64 Y1)).setCell ⟨g, (m + 1) * 7 + 2, none⟩ (.string Y2)).setCell ⟨g, (m + 1) * 7 + 3, none⟩ (.slice A3 N3 C3)).setCell ⟨g, (m + 1) * 7 + 4, none⟩ (.slice A4 N4 C4)).setCell ⟨g, (m + 1) * 7 + 5, none⟩ (.slice A5 N5 C5)).setCell ⟨g, (m + 1) * 7 + 6, none⟩ (.int .i64 Y6)).setCell ⟨g, m * 7, none⟩ (.string key)).setCell ⟨g, m * 7 + 1, none⟩ (.int .i64 x.k)).setCell ⟨g, m * 7 + 2, none⟩ (.string x.t)).setCell ⟨g, m * 7 + 3, none⟩ (.slice p1 x.l.length q1)).setCell ⟨g, m * 7 + 4, none⟩ (.slice p2 x.p.length q2)).setCell ⟨g, m * 7 + 5, none⟩ (.slice p3 x.s.length q3)).setCell ⟨g, m * 7 + 6, none⟩ (.int .i64 til)) = w9 at *
              go_wp2_with fail
              go_roundw
              case rel => exact ⟨m, by omega, by go_num, HW2.out.1, HW2.out.2, HGT2⟩
              case measure => simp [intOf]
            · have HEQ : Hid ((insE l (m + 1) (⟨key, x, til⟩, ((p1, q1), (p2, q2), (p3, q3)))).map Prod.fst = insS O ⟨key, x, til⟩) := insE_stands HL.out HOR.out HNE.out hk HGT.out (fun m' _ h => by
                obtain rfl : m' = m := by omega
                exact fun h2 => hless (HCL.out.2 h2))
              clear HGT HCL HSW hfz
              go_wp2_with fail
              go_quiet ((go_at_call 65; exact Calls.quiet_of (HCT.out _)))
              have C6 : Below W1.heap.size W1 (wr.drewN nq) := below_drewN' hb6 nq
              have R6 : (wr.drewN nq).ownsRow W1.heap.size 45 7 (.slice (some ⟨g, 0, none⟩) (l.length + 1) cap) (l.length + 1) (rowE (insE l (m + 1) (⟨key, x, til⟩, ((p1, q1), (p2, q2), (p3, q3))))) := (Kept.of_below (below_drewN' (Below.refl wr.heap.size wr) nq) (fun _ => False)).owns hown6 (fun _ _ e => e)
              have hil : (insE l (m + 1) (⟨key, x, til⟩, ((p1, q1), (p2, q2), (p3, q3)))).length = l.length + 1 := insE_len _ _ _ (by omega)
              have HSPC : Hid (SpaceAt (wr.drewN nq) (some ⟨g, 0, none⟩) (insS O ⟨key, x, til⟩)) := by
                have h : RefSp W1.heap.size W1 (wr.drewN nq) (.slice (some ⟨g, 0, none⟩) (l.length + 1) cap) (insE l (m + 1) (⟨key, x, til⟩, ((p1, q1), (p2, q2), (p3, q3)))) := ⟨by rw [hil]; exact R6, fun y hy => by
                  rcases insE_mem hy with rfl | hy
                  · exact HX.out
                  · exact HIT.out y (by rw [insE, List.mem_append]; exact .inl (by rw [List.take_length]; exact hy))⟩
                obtain ⟨a9, c9, he, hsp⟩ := h.at C6
                injection he with h1 h2 h3
                subst h1
                rw [HEQ.out] at hsp
                exact hsp
              have HIL : Hid ((insS O ⟨key, x, til⟩).length = l.length + 1) := by rw [Hid, insS_len, HOL.out]
              clear R6 hown6 hil
              generalize wr.drewN nq = wq at *
              by_cases h16 : 16 < l.length + 1
              · have h16' : (16 : Int) < ((l.length : Nat) : Int) + 1 := by omega
                have HSO : Hid (Calls Tryz.prog 18 #[.slice (some ⟨g, 0, none⟩) (l.length + 1) cap, .int .i64 now] wq fun e w' => (∃ ao co, e = .returned (.slice ao (sweepS (insS O ⟨key, x, til⟩) now).length co) ∧ SpaceAt w' ao (sweepS (insS O ⟨key, x, til⟩) now)) ∧ Below wq.heap.size wq w') := by
                  have := sweepOf_any (some ⟨g, 0, none⟩) cap (insS O ⟨key, x, til⟩) now wq HSPC.out (by rw [HIL.out]; omega)
                  rw [HIL.out] at this
                  exact this
                obtain ⟨Q, hQ⟩ : ∃ Q, sweepS (insS O ⟨key, x, til⟩) now = Q := ⟨_, rfl⟩
                have HQ : Hid (Q = insS (sweepS O now) ⟨key, x, til⟩) := by rw [Hid, ← hQ]; exact sweep_ins HOR.out HRX.out.2.2
                rw [hQ] at HSO
                have HRM : Hid (roomE O now = sweepS O now) := by rw [Hid]; unfold roomE; rw [if_pos (by rw [HOL.out]; omega)]; rfl
                clear hQ HSPC
                go_wp2_with fail
                refine HSO.out.mono ?_
                rintro e w7 ⟨⟨ao, co, rfl, hsp⟩, hb7⟩
                have C7 := C6.trans (hb7.mono C6.size)
                have HSP7 := hide hsp
                clear hb7 HSO hsp
                have HQL : Hid (Q.length = (sweepS O now).length + 1) := by rw [Hid, HQ.out, insS_len]
                by_cases h17 : 16 < Q.length
                · have h17' : (16 : Int) < ((Q.length : Nat) : Int) := by omega
                  have HE : Hid (RefPost (putS s now key x til) (putE s now key x til) w (.returned (.tuple #[.slice none 0 0, .int .i64 2])) w7) := by
                    obtain ⟨e1, e2⟩ := HPF.out
                    have hQl := HQL.out
                    rw [HRM.out, if_pos (by omega)] at e1 e2
                    exact refPost_of (Q := []) e1.symm e2.symm rfl (.inl rfl) (HPW.out _ C7)
                  go_wp2_with fail
                  refine bodyPost_ret (v := .tuple #[.slice none 0 0, .int .i64 2]) (by simp [results, Tryz.results16, go_sem]) rfl HE.out
                · have h17' : ¬ (16 : Int) < ((Q.length : Nat) : Int) := by omega
                  have HE : Hid (RefPost (putS s now key x til) (putE s now key x til) w (.returned (.tuple #[.slice ao Q.length co, .int .i64 0])) w7) := by
                    obtain ⟨e1, e2⟩ := HPF.out
                    have hQl := HQL.out
                    rw [HRM.out, if_neg (by omega)] at e1 e2
                    exact refPost_of (Q := Q) (by rw [e1, HQ.out]) e2.symm rfl HSP7.out (HPW.out _ C7)
                  go_wp2_with fail
                  refine bodyPost_ret (v := .tuple #[.slice ao Q.length co, .int .i64 0]) (by simp [results, Tryz.results16, go_sem]) rfl HE.out
              · have h16' : ¬ (16 : Int) < ((l.length : Nat) : Int) + 1 := by omega
                have HE : Hid (RefPost (putS s now key x til) (putE s now key x til) w (.returned (.tuple #[.slice (some ⟨g, 0, none⟩) (l.length + 1) cap, .int .i64 0])) wq) := by
                  obtain ⟨e1, e2⟩ := HPF.out
                  have hr : roomE O now = O := by unfold roomE; rw [if_neg (by rw [HOL.out]; omega)]
                  rw [hr, if_neg (by rw [HOL.out]; omega)] at e1 e2
                  exact refPost_of (Q := insS O ⟨key, x, til⟩) e1.symm e2.symm HIL.out.symm HSPC.out (HPW.out _ C6)
                clear HSPC
                go_wp2_with fail
                refine bodyPost_ret (v := .tuple #[.slice (some ⟨g, 0, none⟩) (l.length + 1) cap, .int .i64 0]) (by simp [results, Tryz.results16, go_sem]) rfl HE.out
end Go.Proofs.YtcidoodaiimhfaaGreat

/- WALK of the reference's IsNothing. -/
namespace Go.Proofs.YtcidoodaiimhfaaGreat
open Go.RowKit

theorem refNothing_any (k : Int) (t : ByteArray) (a1 a2 a3 : Option Addr) (n1 n2 n3 c1 c2 c3 : Nat) (w : World) (h1 : n1 ≤ 281474976710656) (h2 : n2 ≤ 281474976710656) (h3 : n3 ≤ 281474976710656) :
    Calls Tryz.prog 12 #[.agg #[.int .i64 k, .string t, .slice a1 n1 c1, .slice a2 n2 c2, .slice a3 n3 c3]] w fun e w' => e = .returned (.bool (decide (k = 0 ∧ t.toList = [] ∧ n1 = 0 ∧ n2 = 0 ∧ n3 = 0))) ∧ Below w.heap.size w w' := by
  go_enter Tryz.func12, Tryz.ntmps12
  go_wp2
  all_goals go_ret
  all_goals refine ⟨?_, (Below.refl _ _).alloc (Nat.le_refl _) _⟩
  all_goals first | (simp [*]; done) | (simp [*]; rw [Bool.eq_iff_iff]; simp; omega)

end Go.Proofs.YtcidoodaiimhfaaGreat

/- WALKS of the law's own spaces: row, some; what they give. -/
namespace Go.Proofs.YtcidoodaiimhfaaGreat
open Go.RowKit

def yA : ByteArray := ⟨#[97]⟩
def yB : ByteArray := ⟨#[98]⟩
def rowY : Itm := ⟨2, ⟨#[]⟩, [⟨#[97]⟩, ⟨#[98]⟩, ⟨#[97]⟩], [], []⟩
def sp0 : List Ent := [⟨⟨#[108]⟩, rowY, 0⟩, ⟨⟨#[116]⟩, ⟨1, ⟨#[55]⟩, [], [], []⟩, 10⟩]
theorem sb_chk : chkSp sp0 = 0 := by decide +kernel
theorem sb_k9 : chkKey sp0 9 ⟨#[116]⟩ = 0 := by decide +kernel
theorem sb_k10 : chkKey sp0 10 ⟨#[116]⟩ = 0 := by decide +kernel
theorem sb_g9 : (getR sp0 9 ⟨#[116]⟩).t = ⟨#[55]⟩ := by decide +kernel
theorem sb_g10 : (getR sp0 10 ⟨#[116]⟩).isNone = true := by decide +kernel
theorem sb_p : putE sp0 5 ⟨#[107]⟩ rowY 0 = 0 := by decide +kernel
theorem sb_pl : (putS sp0 5 ⟨#[107]⟩ rowY 0).length = 3 := by decide +kernel
theorem sb_u : untilR sp0 9 ⟨#[116]⟩ = 10 := by decide +kernel
theorem sb_ue : untilE sp0 9 ⟨#[116]⟩ = 0 := by decide +kernel
theorem sb_kc : keysC sp0 10 ⟨#[42]⟩ = 0 := by decide +kernel
theorem sb_kr : keysR sp0 10 ⟨#[42]⟩ = [⟨#[108]⟩] := by decide +kernel
theorem sb_s : chkAt sp0 10 = 0 := by decide +kernel
theorem sb_sn : sweepN sp0 10 = 1 := by decide +kernel
theorem sb_sl : (sweepR sp0 10).length = 1 := by decide +kernel
theorem rowY_right : rightI rowY = 0 := by decide +kernel
theorem two_le : (2 : Nat) ≤ maxLen := by unfold maxLen; omega
/-- the law's own row -/
theorem rowY_is {W : World} {g : Nat} (h : W.heap[g]? = some (.cells #[.string ⟨#[97]⟩, .string ⟨#[98]⟩, .string ⟨#[97]⟩] 9 (0, 0))) : ItemIs W (.agg #[.int .i64 2, .string ⟨#[]⟩, .slice (some ⟨g, 0, none⟩) 3 3, .slice none 0 0, .slice none 0 0]) rowY :=
  ⟨⟨some ⟨g, 0, none⟩, 3, none, 0, none, 0, rfl, .inr ⟨g, 0, rfl, fun i hi => by
      match i, hi with
      | 0, _ => simp [World.cell?, h, rowY]
      | 1, _ => simp [World.cell?, h, rowY]
      | 2, _ => simp [World.cell?, h, rowY]⟩, .inl rfl, .inl rfl⟩, (show (0 : Nat) ≤ maxLen by simp), (by
      intro t ht
      simp [rowY] at ht
      rcases ht with rfl | rfl | rfl <;> exact (show (1 : Nat) ≤ maxLen by unfold maxLen; omega)), by simp [rowY], by simp [rowY], by simp [rowY], by simp [rowY], by simp [rowY]⟩
set_option maxRecDepth 100000 in
set_option maxHeartbeats 2000000 in
theorem rowY_any (w : World) : Calls Tryz.prog 72 #[] w fun e w' => e = .returned (.agg #[.int .i64 2, .string ⟨#[]⟩, .slice (some ⟨w.heap.size + 1, 0, none⟩) 3 3, .slice none 0 0, .slice none 0 0]) ∧ w'.heap[w.heap.size + 1]? = some (.cells #[.string ⟨#[97]⟩, .string ⟨#[98]⟩, .string ⟨#[97]⟩] 9 (0, 0)) ∧ Below w.heap.size w w' := by
  go_enter Tryz.func72, Tryz.ntmps72
  go_wp2_with fail
  refine bodyPost_ret (v := .agg #[.int .i64 2, .string ⟨#[]⟩, .slice (some ⟨w.heap.size + 1, 0, none⟩) 3 3, .slice none 0 0, .slice none 0 0]) (by simp [results, Tryz.results72, go_sem]) rfl ⟨rfl, ?_, ?_⟩
  · have h1 := allocY_new (w.alloc (.cells #[.int .i64 2, .string ⟨#[]⟩, .slice (some ⟨w.heap.size + 1, 0, none⟩) 3 3, .slice none 0 0, .slice none 0 0] 28)) (.cells #[.string ⟨#[97]⟩, .string ⟨#[98]⟩, .string ⟨#[97]⟩] 9)
    rw [World.size_alloc] at h1
    exact h1
  · go_grown
set_option maxRecDepth 100000 in
set_option maxHeartbeats 2000000 in
theorem some_any (w : World) : Calls Tryz.prog 71 #[] w fun e w' => (∃ g, e = .returned (.slice (some ⟨g, 0, none⟩) 2 2) ∧ SpaceAt w' (some ⟨g, 0, none⟩) sp0) ∧ Below w.heap.size w w' := by
  have HR := hide (rowY_any w)
  go_enter Tryz.func71, Tryz.ntmps71
  go_wp2_with fail
  refine HR.out.mono ?_
  rintro e w1 ⟨rfl, hr1, hb1⟩
  have HH := hide hr1
  clear hr1 HR
  go_wp2_with fail
  have HE := allocY_new w1 (.cells #[.string ⟨#[108]⟩, .int .i64 2, .string ⟨#[]⟩, .slice (some ⟨w.heap.size + 1, 0, none⟩) 3 3, .slice none 0 0, .slice none 0 0, .int .i64 0, .string ⟨#[116]⟩, .int .i64 1, .string ⟨#[55]⟩, .slice none 0 0, .slice none 0 0, .slice none 0 0, .int .i64 10] 45)
  have HB : Below w1.heap.size w1 (w1.alloc (.cells #[.string ⟨#[108]⟩, .int .i64 2, .string ⟨#[]⟩, .slice (some ⟨w.heap.size + 1, 0, none⟩) 3 3, .slice none 0 0, .slice none 0 0, .int .i64 0, .string ⟨#[116]⟩, .int .i64 1, .string ⟨#[55]⟩, .slice none 0 0, .slice none 0 0, .slice none 0 0, .int .i64 10] 45)) := (Below.refl _ w1).alloc (Nat.le_refl _) _
  generalize w1.alloc (.cells #[.string ⟨#[108]⟩, .int .i64 2, .string ⟨#[]⟩, .slice (some ⟨w.heap.size + 1, 0, none⟩) 3 3, .slice none 0 0, .slice none 0 0, .int .i64 0, .string ⟨#[116]⟩, .int .i64 1, .string ⟨#[55]⟩, .slice none 0 0, .slice none 0 0, .slice none 0 0, .int .i64 10] 45) = W2 at *
  have HR2 := (HB.block _ (Array.getElem?_eq_some_iff.1 HH.out).1).trans HH.out
  have B2 := hb1.trans (HB.mono hb1.size)
  refine bodyPost_ret (v := .slice (some ⟨w1.heap.size, 0, none⟩) 2 2) (by simp [results, Tryz.results71, go_sem]) rfl ⟨⟨_, rfl, .inr ⟨w1.heap.size, 0, rfl, fun i hi => ?_⟩⟩, B2⟩
  match i, hi with
  | 0, _ => exact ⟨some ⟨w.heap.size + 1, 0, none⟩, 3, none, 0, none, 0, ⟨by simp [World.cell?, HE, sp0], by simp [World.cell?, HE, sp0, rowY], by simp [World.cell?, HE, sp0, rowY], by simp [World.cell?, HE, sp0, rowY], by simp [World.cell?, HE, sp0, rowY], by simp [World.cell?, HE, sp0, rowY], by simp [World.cell?, HE, sp0]⟩, rowY_is HR2⟩
  | 1, _ => exact ⟨none, 0, none, 0, none, 0, ⟨by simp [World.cell?, HE, sp0], by simp [World.cell?, HE, sp0], by simp [World.cell?, HE, sp0], by simp [World.cell?, HE, sp0], by simp [World.cell?, HE, sp0], by simp [World.cell?, HE, sp0], by simp [World.cell?, HE, sp0]⟩, ⟨⟨none, 0, none, 0, none, 0, rfl, .inl rfl, .inl rfl, .inl rfl⟩, (show (1 : Nat) ≤ maxLen by unfold maxLen; omega), by simp [sp0], by simp [sp0], by simp [sp0], by simp [sp0], by simp [sp0], by simp [sp0]⟩⟩
end Go.Proofs.YtcidoodaiimhfaaGreat

/- WALK of spaceBegun. -/
namespace Go.Proofs.YtcidoodaiimhfaaGreat
open Go.RowKit

theorem sp0_right : SpRight sp0 := spRight sb_chk
set_option maxRecDepth 100000 in
set_option maxHeartbeats 4000000 in
theorem spaceBegun_any (w : World) : Calls Tryz.prog 19 #[] w fun e w' => e = .returned (.bool true) ∧ Below w.heap.size w w' := by
  have HS : Hid (∀ W, Calls Tryz.prog 71 #[] W fun e w' => (∃ g, e = .returned (.slice (some ⟨g, 0, none⟩) 2 2) ∧ SpaceAt w' (some ⟨g, 0, none⟩) sp0) ∧ Below W.heap.size W w') := fun W => some_any W
  have HR : Hid (∀ W, Calls Tryz.prog 72 #[] W fun e w' => (e = .returned (.agg #[.int .i64 2, .string ⟨#[]⟩, .slice (some ⟨W.heap.size + 1, 0, none⟩) 3 3, .slice none 0 0, .slice none 0 0]) ∧ w'.heap[W.heap.size + 1]? = some (.cells #[.string ⟨#[97]⟩, .string ⟨#[98]⟩, .string ⟨#[97]⟩] 9 (0, 0))) ∧ Below W.heap.size W w') := fun W => (rowY_any W).mono fun e w' h => ⟨⟨h.1, h.2.1⟩, h.2.2⟩
  have H1 : Hid (∀ g W, SpaceAt W (some ⟨g, 0, none⟩) sp0 → Calls Tryz.prog 6 #[.slice (some ⟨g, 0, none⟩) 2 2, .int .i64 9, .string ⟨#[116]⟩] W fun e w' => (∃ k n1 n2 n3 b1 d1 b2 d2 b3 d3, e = .returned (.tuple #[.agg #[.int .i64 k, .string ⟨#[55]⟩, .slice b1 n1 d1, .slice b2 n2 d2, .slice b3 n3 d3], .int .i64 0])) ∧ Below W.heap.size W w') := fun g W h => by
    refine (get_tells (some ⟨g, 0, none⟩) 2 sp0 9 ⟨#[116]⟩ W h (by decide)).mono ?_
    rintro e w' ⟨⟨v, rfl, b1, d1, b2, d2, b3, d3, rfl, -⟩, hb⟩
    rw [sb_k9, sb_g9]
    exact ⟨⟨_, _, _, _, _, _, _, _, _, _, rfl⟩, hb⟩
  have H2 : Hid (∀ g W, SpaceAt W (some ⟨g, 0, none⟩) sp0 → Calls Tryz.prog 6 #[.slice (some ⟨g, 0, none⟩) 2 2, .int .i64 10, .string ⟨#[116]⟩] W fun e w' => (∃ e1 f1 e2 f2 e3 f3, e = .returned (.tuple #[.agg #[.int .i64 0, .string ⟨#[]⟩, .slice e1 0 f1, .slice e2 0 f2, .slice e3 0 f3], .int .i64 0])) ∧ Below W.heap.size W w') := fun g W h => by
    refine (get_tells (some ⟨g, 0, none⟩) 2 sp0 10 ⟨#[116]⟩ W h (by decide)).mono ?_
    rintro e w' ⟨⟨v, rfl, b1, d1, b2, d2, b3, d3, rfl, -⟩, hb⟩
    rw [sb_k10, isNone_eq sb_g10]
    exact ⟨⟨_, _, _, _, _, _, rfl⟩, hb⟩
  have H3 : Hid (∀ g g9 W, SpaceAt W (some ⟨g, 0, none⟩) sp0 → W.heap[g9]? = some (.cells #[.string ⟨#[97]⟩, .string ⟨#[98]⟩, .string ⟨#[97]⟩] 9 (0, 0)) → Calls Tryz.prog 7 #[.slice (some ⟨g, 0, none⟩) 2 2, .int .i64 5, .string ⟨#[107]⟩, .agg #[.int .i64 2, .string ⟨#[]⟩, .slice (some ⟨g9, 0, none⟩) 3 3, .slice none 0 0, .slice none 0 0], .int .i64 0] W fun e w' => (∃ a3 c3, e = .returned (.tuple #[.slice a3 3 c3, .int .i64 0])) ∧ Below W.heap.size W w') := fun g g9 W h h9 => by
    refine (put_tells (some ⟨g, 0, none⟩) 2 sp0 5 ⟨#[107]⟩ _ rowY 0 W h (by decide) (rowY_is h9)).mono ?_
    rintro e w' ⟨⟨ao, co, l, rfl, -, -⟩, hb⟩
    rw [sb_p, sb_pl]
    exact ⟨⟨_, _, rfl⟩, hb⟩
  have H4 : Hid (∀ g W, SpaceAt W (some ⟨g, 0, none⟩) sp0 → Calls Tryz.prog 8 #[.slice (some ⟨g, 0, none⟩) 2 2, .int .i64 9, .string ⟨#[116]⟩] W fun e w' => e = .returned (.tuple #[.int .i64 10, .int .i64 0]) ∧ Below W.heap.size W w') := fun g W h => by
    have := until_tells (some ⟨g, 0, none⟩) 2 sp0 9 ⟨#[116]⟩ W h (by decide)
    rw [sb_u, sb_ue] at this
    exact this
  have H5 : Hid (∀ g W, SpaceAt W (some ⟨g, 0, none⟩) sp0 → Calls Tryz.prog 9 #[.slice (some ⟨g, 0, none⟩) 2 2, .int .i64 10, .string ⟨#[42]⟩] W fun e w' => (∃ a5 c5, e = .returned (.tuple #[.slice a5 1 c5, .int .i64 0]) ∧ TextsAt w' a5 [⟨#[108]⟩]) ∧ Below W.heap.size W w') := fun g W h => by
    refine (keys_tells (some ⟨g, 0, none⟩) 2 sp0 10 ⟨#[42]⟩ W h (by decide)).mono ?_
    rintro e w' ⟨⟨ao, co, rfl, ho⟩, hb⟩
    rw [sb_kr] at ho ⊢
    rw [sb_kc]
    exact ⟨⟨ao, co, rfl, textsY ho⟩, hb⟩
  have H6 : Hid (∀ g W, SpaceAt W (some ⟨g, 0, none⟩) sp0 → Calls Tryz.prog 10 #[.slice (some ⟨g, 0, none⟩) 2 2, .int .i64 10] W fun e w' => (∃ a6 c6, e = .returned (.tuple #[.slice a6 1 c6, .int .i64 1, .int .i64 0])) ∧ Below W.heap.size W w') := fun g W h => by
    refine (sweep_tells (some ⟨g, 0, none⟩) 2 sp0 10 W h (by decide)).mono ?_
    rintro e w' ⟨⟨ao, co, l, rfl, -, -⟩, hb⟩
    rw [sb_s, sb_sn, sb_sl]
    exact ⟨⟨_, _, rfl⟩, hb⟩
  have H7 : Hid (∀ g W, SpaceAt W (some ⟨g, 0, none⟩) sp0 → Calls Tryz.prog 20 #[.slice (some ⟨g, 0, none⟩) 2 2] W fun e w' => e = .returned (.int .i64 0) ∧ Below W.heap.size W w') := fun g W h => by
    have := spCheck_any (some ⟨g, 0, none⟩) 2 sp0 W h (by decide)
    rw [sb_chk] at this
    exact this
  have HI : Hid (∀ e1 e2 e3 f1 f2 f3 W, Calls Tryz.prog 12 #[.agg #[.int .i64 0, .string ⟨#[]⟩, .slice e1 0 f1, .slice e2 0 f2, .slice e3 0 f3]] W fun e w' => e = .returned (.bool true) ∧ Below W.heap.size W w') := fun e1 e2 e3 f1 f2 f3 W => by
    have := refNothing_any 0 ⟨#[]⟩ e1 e2 e3 0 0 0 f1 f2 f3 W (by omega) (by omega) (by omega)
    rw [decide_eq_true (by decide +kernel)] at this
    exact this
  have H8 : Hid (∀ a5 c5 g W, TextsAt W a5 [⟨#[108]⟩] → W.heap[g]? = some (.cells #[.string ⟨#[108]⟩] 9 (0, 0)) → Calls Tryz.prog 24 #[.slice a5 1 c5, .slice (some ⟨g, 0, none⟩) 1 1] W fun e w' => e = .returned (.bool true) ∧ Below W.heap.size W w') := fun a5 c5 g W h hg => by
    have := sameT_any a5 (some ⟨g, 0, none⟩) c5 1 [⟨#[108]⟩] [⟨#[108]⟩] W h (.inr ⟨g, 0, rfl, fun i hi => by
      have : i = 0 := by simpa using hi
      subst this
      simp [World.cell?, hg]⟩) (by decide)
    rw [decide_eq_true rfl] at this
    exact this
  go_enter Tryz.func19, Tryz.ntmps19
  go_wp2_with fail
  refine (HS.out w).mono ?_
  rintro e u0 ⟨⟨g0, rfl, S_u0⟩, hbu0⟩
  have B_u0 : Below w.heap.size w u0 := hbu0
  clear hbu0
  go_wp2_with fail
  refine (H1.out g0 u0 S_u0).mono ?_
  rintro e u1 ⟨⟨k, n1, n2, n3, b1, d1, b2, d2, b3, d3, rfl⟩, hbu1⟩
  have B_u1 := B_u0.trans (hbu1.mono B_u0.size)
  clear B_u0 S_u0 hbu1
  obtain ⟨V2, hV2⟩ : ∃ V2, u1.alloc (.cells #[.int .i64 k, .string ⟨#[55]⟩, .slice b1 n1 d1, .slice b2 n2 d2, .slice b3 n3 d3] 28) = V2 := ⟨_, rfl⟩
  have AV2 : Below u1.heap.size u1 V2 := hV2 ▸ (Below.refl _ u1).alloc (Nat.le_refl _) _
  have X_V2 : V2.heap[u1.heap.size]? = some (.cells #[.int .i64 k, .string ⟨#[55]⟩, .slice b1 n1 d1, .slice b2 n2 d2, .slice b3 n3 d3] 28 (0, 0)) := hV2 ▸ allocY_new u1 _
  have lX_V2 := (Array.getElem?_eq_some_iff.1 X_V2).1
  have B_V2 := B_u1.trans (AV2.mono B_u1.size)
  clear B_u1 AV2
  go_wp2_with fail
  refine (HS.out V2).mono ?_
  rintro e u3 ⟨⟨g3, rfl, S_u3⟩, hbu3⟩
  have X_u3 := (hbu3.block _ lX_V2).trans X_V2
  have lX_u3 := (Array.getElem?_eq_some_iff.1 X_u3).1
  have B_u3 := B_V2.trans (hbu3.mono B_V2.size)
  clear X_V2 lX_V2 B_V2 hbu3 hV2
  go_wp2_with fail
  refine (H2.out g3 u3 S_u3).mono ?_
  rintro e u4 ⟨⟨e1, f1, e2, f2, e3, f3, rfl⟩, hbu4⟩
  have X_u4 := (hbu4.block _ lX_u3).trans X_u3
  have lX_u4 := (Array.getElem?_eq_some_iff.1 X_u4).1
  have B_u4 := B_u3.trans (hbu4.mono B_u3.size)
  clear X_u3 lX_u3 B_u3 S_u3 hbu4
  obtain ⟨V5, hV5⟩ : ∃ V5, u4.alloc (.cells #[.int .i64 0, .string ⟨#[]⟩, .slice e1 0 f1, .slice e2 0 f2, .slice e3 0 f3] 28) = V5 := ⟨_, rfl⟩
  have AV5 : Below u4.heap.size u4 V5 := hV5 ▸ (Below.refl _ u4).alloc (Nat.le_refl _) _
  have Y_V5 : V5.heap[u4.heap.size]? = some (.cells #[.int .i64 0, .string ⟨#[]⟩, .slice e1 0 f1, .slice e2 0 f2, .slice e3 0 f3] 28 (0, 0)) := hV5 ▸ allocY_new u4 _
  have lY_V5 := (Array.getElem?_eq_some_iff.1 Y_V5).1
  have X_V5 := (AV5.block _ lX_u4).trans X_u4
  have lX_V5 := (Array.getElem?_eq_some_iff.1 X_V5).1
  have B_V5 := B_u4.trans (AV5.mono B_u4.size)
  clear X_u4 lX_u4 B_u4 AV5
  go_wp2_with fail
  refine (HS.out V5).mono ?_
  rintro e u6 ⟨⟨g6, rfl, S_u6⟩, hbu6⟩
  have X_u6 := (hbu6.block _ lX_V5).trans X_V5
  have lX_u6 := (Array.getElem?_eq_some_iff.1 X_u6).1
  have Y_u6 := (hbu6.block _ lY_V5).trans Y_V5
  have lY_u6 := (Array.getElem?_eq_some_iff.1 Y_u6).1
  have B_u6 := B_V5.trans (hbu6.mono B_V5.size)
  clear X_V5 lX_V5 Y_V5 lY_V5 B_V5 hbu6 hV5
  go_wp2_with fail
  refine (HR.out u6).mono ?_
  rintro e u7 ⟨⟨rfl, R_u7⟩, hbu7⟩
  have X_u7 := (hbu7.block _ lX_u6).trans X_u6
  have lX_u7 := (Array.getElem?_eq_some_iff.1 X_u7).1
  have Y_u7 := (hbu7.block _ lY_u6).trans Y_u6
  have lY_u7 := (Array.getElem?_eq_some_iff.1 Y_u7).1
  have S_u7 := S_u6.below hbu7
  have B_u7 := B_u6.trans (hbu7.mono B_u6.size)
  clear X_u6 lX_u6 Y_u6 lY_u6 S_u6 B_u6 hbu7
  have lR_u7 := (Array.getElem?_eq_some_iff.1 R_u7).1
  go_wp2_with fail
  refine (H3.out g6 (u6.heap.size + 1) u7 S_u7 R_u7).mono ?_
  rintro e u8 ⟨⟨a3, c3, rfl⟩, hbu8⟩
  have X_u8 := (hbu8.block _ lX_u7).trans X_u7
  have lX_u8 := (Array.getElem?_eq_some_iff.1 X_u8).1
  have Y_u8 := (hbu8.block _ lY_u7).trans Y_u7
  have lY_u8 := (Array.getElem?_eq_some_iff.1 Y_u8).1
  have B_u8 := B_u7.trans (hbu8.mono B_u7.size)
  clear X_u7 lX_u7 Y_u7 lY_u7 B_u7 S_u7 R_u7 lR_u7 hbu8
  go_wp2_with fail
  refine (HS.out u8).mono ?_
  rintro e u9 ⟨⟨g9, rfl, S_u9⟩, hbu9⟩
  have X_u9 := (hbu9.block _ lX_u8).trans X_u8
  have lX_u9 := (Array.getElem?_eq_some_iff.1 X_u9).1
  have Y_u9 := (hbu9.block _ lY_u8).trans Y_u8
  have lY_u9 := (Array.getElem?_eq_some_iff.1 Y_u9).1
  have B_u9 := B_u8.trans (hbu9.mono B_u8.size)
  clear X_u8 lX_u8 Y_u8 lY_u8 B_u8 hbu9
  go_wp2_with fail
  refine (H4.out g9 u9 S_u9).mono ?_
  rintro e u10 ⟨rfl, hbu10⟩
  have X_u10 := (hbu10.block _ lX_u9).trans X_u9
  have lX_u10 := (Array.getElem?_eq_some_iff.1 X_u10).1
  have Y_u10 := (hbu10.block _ lY_u9).trans Y_u9
  have lY_u10 := (Array.getElem?_eq_some_iff.1 Y_u10).1
  have B_u10 := B_u9.trans (hbu10.mono B_u9.size)
  clear X_u9 lX_u9 Y_u9 lY_u9 B_u9 S_u9 hbu10
  go_wp2_with fail
  refine (HS.out u10).mono ?_
  rintro e u11 ⟨⟨g11, rfl, S_u11⟩, hbu11⟩
  have X_u11 := (hbu11.block _ lX_u10).trans X_u10
  have lX_u11 := (Array.getElem?_eq_some_iff.1 X_u11).1
  have Y_u11 := (hbu11.block _ lY_u10).trans Y_u10
  have lY_u11 := (Array.getElem?_eq_some_iff.1 Y_u11).1
  have B_u11 := B_u10.trans (hbu11.mono B_u10.size)
  clear X_u10 lX_u10 Y_u10 lY_u10 B_u10 hbu11
  go_wp2_with fail
  refine (H5.out g11 u11 S_u11).mono ?_
  rintro e u12 ⟨⟨a5, c5, rfl, T_u12⟩, hbu12⟩
  have X_u12 := (hbu12.block _ lX_u11).trans X_u11
  have lX_u12 := (Array.getElem?_eq_some_iff.1 X_u12).1
  have Y_u12 := (hbu12.block _ lY_u11).trans Y_u11
  have lY_u12 := (Array.getElem?_eq_some_iff.1 Y_u12).1
  have B_u12 := B_u11.trans (hbu12.mono B_u11.size)
  clear X_u11 lX_u11 Y_u11 lY_u11 B_u11 S_u11 hbu12
  go_wp2_with fail
  refine (HS.out u12).mono ?_
  rintro e u13 ⟨⟨g13, rfl, S_u13⟩, hbu13⟩
  have X_u13 := (hbu13.block _ lX_u12).trans X_u12
  have lX_u13 := (Array.getElem?_eq_some_iff.1 X_u13).1
  have Y_u13 := (hbu13.block _ lY_u12).trans Y_u12
  have lY_u13 := (Array.getElem?_eq_some_iff.1 Y_u13).1
  have T_u13 := T_u12.below hbu13
  have B_u13 := B_u12.trans (hbu13.mono B_u12.size)
  clear X_u12 lX_u12 Y_u12 lY_u12 T_u12 B_u12 hbu13
  go_wp2_with fail
  refine (H6.out g13 u13 S_u13).mono ?_
  rintro e u14 ⟨⟨a6, c6, rfl⟩, hbu14⟩
  have X_u14 := (hbu14.block _ lX_u13).trans X_u13
  have lX_u14 := (Array.getElem?_eq_some_iff.1 X_u14).1
  have Y_u14 := (hbu14.block _ lY_u13).trans Y_u13
  have lY_u14 := (Array.getElem?_eq_some_iff.1 Y_u14).1
  have T_u14 := T_u13.below hbu14
  have B_u14 := B_u13.trans (hbu14.mono B_u13.size)
  clear X_u13 lX_u13 Y_u13 lY_u13 T_u13 B_u13 S_u13 hbu14
  go_wp2_with fail
  refine (HS.out u14).mono ?_
  rintro e u15 ⟨⟨g15, rfl, S_u15⟩, hbu15⟩
  have X_u15 := (hbu15.block _ lX_u14).trans X_u14
  have lX_u15 := (Array.getElem?_eq_some_iff.1 X_u15).1
  have Y_u15 := (hbu15.block _ lY_u14).trans Y_u14
  have lY_u15 := (Array.getElem?_eq_some_iff.1 Y_u15).1
  have T_u15 := T_u14.below hbu15
  have B_u15 := B_u14.trans (hbu15.mono B_u14.size)
  clear X_u14 lX_u14 Y_u14 lY_u14 T_u14 B_u14 hbu15
  go_wp2_with fail
  refine (H7.out g15 u15 S_u15).mono ?_
  rintro e u16 ⟨rfl, hbu16⟩
  have X_u16 := (hbu16.block _ lX_u15).trans X_u15
  have lX_u16 := (Array.getElem?_eq_some_iff.1 X_u16).1
  have Y_u16 := (hbu16.block _ lY_u15).trans Y_u15
  have lY_u16 := (Array.getElem?_eq_some_iff.1 Y_u16).1
  have T_u16 := T_u15.below hbu16
  have B_u16 := B_u15.trans (hbu16.mono B_u15.size)
  clear X_u15 lX_u15 Y_u15 lY_u15 T_u15 B_u15 S_u15 hbu16
  have x1 : u16.cell? ⟨u1.heap.size, 1, none⟩ = some (.string ⟨#[55]⟩) := by simp [World.cell?, X_u16]
  have y0 : u16.cell? ⟨u4.heap.size, 0, none⟩ = some (.int .i64 0) := by simp [World.cell?, Y_u16]
  have y1 : u16.cell? ⟨u4.heap.size, 1, none⟩ = some (.string ⟨#[]⟩) := by simp [World.cell?, Y_u16]
  have y2 : u16.cell? ⟨u4.heap.size, 2, none⟩ = some (.slice e1 0 f1) := by simp [World.cell?, Y_u16]
  have y3 : u16.cell? ⟨u4.heap.size, 3, none⟩ = some (.slice e2 0 f2) := by simp [World.cell?, Y_u16]
  have y4 : u16.cell? ⟨u4.heap.size, 4, none⟩ = some (.slice e3 0 f3) := by simp [World.cell?, Y_u16]
  go_wp2_with fail
  refine (HI.out e1 e2 e3 f1 f2 f3 u16).mono ?_
  rintro e u17 ⟨rfl, hbu17⟩
  have X_u17 := (hbu17.block _ lX_u16).trans X_u16
  have lX_u17 := (Array.getElem?_eq_some_iff.1 X_u17).1
  have Y_u17 := (hbu17.block _ lY_u16).trans Y_u16
  have lY_u17 := (Array.getElem?_eq_some_iff.1 Y_u17).1
  have T_u17 := T_u16.below hbu17
  have B_u17 := B_u16.trans (hbu17.mono B_u16.size)
  clear X_u16 lX_u16 Y_u16 lY_u16 T_u16 B_u16 hbu17 x1 y0 y1 y2 y3 y4
  obtain ⟨V18, hV18⟩ : ∃ V18, u17.alloc (.cells #[.string ⟨#[108]⟩] 9) = V18 := ⟨_, rfl⟩
  have AV18 : Below u17.heap.size u17 V18 := hV18 ▸ (Below.refl _ u17).alloc (Nat.le_refl _) _
  have L_V18 : V18.heap[u17.heap.size]? = some (.cells #[.string ⟨#[108]⟩] 9 (0, 0)) := hV18 ▸ allocY_new u17 _
  have lL_V18 := (Array.getElem?_eq_some_iff.1 L_V18).1
  have X_V18 := (AV18.block _ lX_u17).trans X_u17
  have lX_V18 := (Array.getElem?_eq_some_iff.1 X_V18).1
  have Y_V18 := (AV18.block _ lY_u17).trans Y_u17
  have lY_V18 := (Array.getElem?_eq_some_iff.1 Y_V18).1
  have T_V18 := T_u17.below AV18
  have B_V18 := B_u17.trans (AV18.mono B_u17.size)
  clear X_u17 lX_u17 Y_u17 lY_u17 T_u17 B_u17 AV18
  go_wp2_with fail
  refine (H8.out a5 c5 (u17.heap.size) V18 T_V18 L_V18).mono ?_
  rintro e u19 ⟨rfl, hbu19⟩
  have B_u19 := B_V18.trans (hbu19.mono B_V18.size)
  clear B_V18 T_V18 L_V18 lL_V18 X_V18 lX_V18 Y_V18 lY_V18 hbu19 hV18
  go_wp2_with fail
  go_ret
  exact ⟨rfl, B_u19⟩
end Go.Proofs.YtcidoodaiimhfaaGreat

/- WALK of whether items are the same. -/
namespace Go.Proofs.YtcidoodaiimhfaaGreat
open Go.RowKit

def sameI (x y : Itm) : Bool := decide (x.k = y.k ∧ x.t = y.t ∧ x.l = y.l ∧ x.p = y.p ∧ x.s = y.s)

set_option maxRecDepth 100000 in
set_option maxHeartbeats 4000000 in
theorem sameItem_any (v u : Value) (x y : Itm) (w : World) (hx : ItemIs w v x) (hy : ItemIs w u y) :
    Calls Tryz.prog 22 #[v, u] w fun e w' => e = .returned (.bool (sameI x y)) ∧ Below w.heap.size w w' := by
  obtain ⟨⟨al1, cl1, ap1, cp1, as1, cs1, rfl, L1, P1, S1⟩, -, -, -, -, ll1, pl1, sl1⟩ := hx
  obtain ⟨⟨al2, cl2, ap2, cp2, as2, cs2, rfl, L2, P2, S2⟩, -, -, -, -, ll2, pl2, sl2⟩ := hy
  obtain ⟨k1, t1, l1, p1, s1⟩ := x
  obtain ⟨k2, t2, l2, p2, s2⟩ := y
  simp only [sameI] at *
  have HS : Hid (∀ W, Below w.heap.size w W → Calls Tryz.prog 24 #[.slice al1 l1.length cl1, .slice al2 l2.length cl2] W fun e w' => e = .returned (.bool (decide (l1 = l2))) ∧ Below W.heap.size W w') := fun W hW => sameT_any _ _ _ _ _ _ W (L1.below hW) (L2.below hW) ll2
  clear L1 L2
  replace P1 := hide P1
  replace P2 := hide P2
  replace S1 := hide S1
  replace S2 := hide S2
  by_cases hk : k1 = k2
  rotate_left
  · have hk' : (k1 == k2) = false := by rw [beq_eq_false_iff_ne]; exact hk
    rw [decide_eq_false (show ¬ (k1 = k2 ∧ t1 = t2 ∧ l1 = l2 ∧ p1 = p2 ∧ s1 = s2) from fun h => hk h.1)]
    go_enter Tryz.func22, Tryz.ntmps22
    go_wp2_with fail
    go_ret
    exact ⟨rfl, ((Below.refl _ w).alloc (Nat.le_refl _) _).alloc (by simp) _⟩
  subst hk
  by_cases ht : t1 = t2
  rotate_left
  · have ht' : (t1.toList == t2.toList) = false := by rw [beq_eq_false_iff_ne]; exact fun e => ht (bytes_inj e)
    rw [decide_eq_false (show ¬ (k1 = k1 ∧ t1 = t2 ∧ l1 = l2 ∧ p1 = p2 ∧ s1 = s2) from fun h => ht h.2.1)]
    go_enter Tryz.func22, Tryz.ntmps22
    go_wp2_with fail
    go_ret
    exact ⟨rfl, ((Below.refl _ w).alloc (Nat.le_refl _) _).alloc (by simp) _⟩
  subst ht
  by_cases hl : l1 = l2
  rotate_left
  · rw [decide_eq_false hl] at HS
    rw [decide_eq_false (show ¬ (k1 = k1 ∧ t1 = t1 ∧ l1 = l2 ∧ p1 = p2 ∧ s1 = s2) from fun h => hl h.2.2.1)]
    go_enter Tryz.func22, Tryz.ntmps22
    go_wp2_with fail
    refine (HS.out _ (((Below.refl _ w).alloc (Nat.le_refl _) _).alloc (by simp) _)).mono ?_
    rintro e w1 ⟨rfl, hb1⟩
    obtain ⟨hc1, hf1⟩ := bcell hb1
    have hz1 : w.heap.size + 1 < w1.heap.size := by have := hb1.size; simp at this; omega
    have B1 : Below w.heap.size w w1 := (((Below.refl _ w).alloc (Nat.le_refl _) _).alloc (by simp) _).trans (hb1.mono (by simp; omega))
    go_wp2_with fail
    go_ret
    exact ⟨rfl, B1⟩
  subst hl
  rw [decide_eq_true (rfl : l1 = l1)] at HS
  by_cases hlp : p1.length = p2.length
  rotate_left
  · have hlp' : (((p1.length : Nat) : Int) == ((p2.length : Nat) : Int)) = false := by rw [beq_eq_false_iff_ne]; omega
    rw [decide_eq_false (show ¬ (k1 = k1 ∧ t1 = t1 ∧ l1 = l1 ∧ p1 = p2 ∧ s1 = s2) from fun h => hlp (by rw [h.2.2.2.1]))]
    go_enter Tryz.func22, Tryz.ntmps22
    go_wp2_with fail
    refine (HS.out _ (((Below.refl _ w).alloc (Nat.le_refl _) _).alloc (by simp) _)).mono ?_
    rintro e w1 ⟨rfl, hb1⟩
    obtain ⟨hc1, hf1⟩ := bcell hb1
    have hz1 : w.heap.size + 1 < w1.heap.size := by have := hb1.size; simp at this; omega
    have B1 : Below w.heap.size w w1 := (((Below.refl _ w).alloc (Nat.le_refl _) _).alloc (by simp) _).trans (hb1.mono (by simp; omega))
    go_wp2_with fail
    go_ret
    exact ⟨rfl, B1⟩
  by_cases hls : s1.length = s2.length
  rotate_left
  · have hls' : (((s1.length : Nat) : Int) == ((s2.length : Nat) : Int)) = false := by rw [beq_eq_false_iff_ne]; omega
    rw [hlp]
    rw [decide_eq_false (show ¬ (k1 = k1 ∧ t1 = t1 ∧ l1 = l1 ∧ p1 = p2 ∧ s1 = s2) from fun h => hls (by rw [h.2.2.2.2]))]
    go_enter Tryz.func22, Tryz.ntmps22
    go_wp2_with fail
    refine (HS.out _ (((Below.refl _ w).alloc (Nat.le_refl _) _).alloc (by simp) _)).mono ?_
    rintro e w1 ⟨rfl, hb1⟩
    obtain ⟨hc1, hf1⟩ := bcell hb1
    have hz1 : w.heap.size + 1 < w1.heap.size := by have := hb1.size; simp at this; omega
    have B1 : Below w.heap.size w w1 := (((Below.refl _ w).alloc (Nat.le_refl _) _).alloc (by simp) _).trans (hb1.mono (by simp; omega))
    go_wp2_with fail
    go_ret
    exact ⟨rfl, B1⟩
  rw [hlp, hls]
  generalize hR : decide (k1 = k1 ∧ t1 = t1 ∧ l1 = l1 ∧ p1 = p2 ∧ s1 = s2) = R
  have HR := hide hR
  clear hR
  go_enter Tryz.func22, Tryz.ntmps22
  go_wp2_with fail
  refine (HS.out _ (((Below.refl _ w).alloc (Nat.le_refl _) _).alloc (by simp) _)).mono ?_
  rintro e w1 ⟨rfl, hb1⟩
  obtain ⟨hc1, hf1⟩ := bcell hb1
  have hz1 : w.heap.size + 1 < w1.heap.size := by have := hb1.size; simp at this; omega
  have B1 : Below w.heap.size w w1 := (((Below.refl _ w).alloc (Nat.le_refl _) _).alloc (by simp) _).trans (hb1.mono (by simp; omega))
  go_wp2_with fail
  go_loopw [5] (fun i wr => ∃ k : Nat, k ≤ p2.length ∧ i = .int .i64 k ∧ Below w1.heap.size w1 wr ∧ Hid (p1.take k = p2.take k)) (fun i _ => p2.length - (intOf i).toNat)
  case atStart => exact ⟨0, Nat.zero_le _, rfl, Below.refl _ _, by simp [Hid]⟩
  case round =>
    obtain ⟨k, hk, rfl, hbrP, HE⟩ := hrel
    have q1 : wr.cell? ⟨w.heap.size, 3, none⟩ = some (.slice ap1 p2.length cp1) := ((hbrP.cell (p := ⟨w.heap.size, 3, none⟩) (by simp only; omega)).trans (hc1 _ _ (by simp; omega))).trans (by simp [go_sem])
    have q2 : wr.cell? ⟨w.heap.size + 1, 3, none⟩ = some (.slice ap2 p2.length cp2) := ((hbrP.cell (p := ⟨w.heap.size + 1, 3, none⟩) (by simp only; omega)).trans (hc1 _ _ (by simp))).trans (by simp [go_sem])
    have hBrP : Below w.heap.size w wr := B1.trans (hbrP.mono B1.size)
    by_cases hlt : k < p2.length
    · have hltx : k < p1.length := by omega
      obtain ⟨g1, o1, rfl, e1⟩ : ∃ g o, ap1 = some ⟨g, o, none⟩ ∧ ∀ i (h : i < p1.length), w.cell? ⟨g, o + i * 2, none⟩ = some (.string p1[i].1) ∧ w.cell? ⟨g, o + i * 2 + 1, none⟩ = some (.string p1[i].2) := by
        rcases P1.out with h | h
        · rw [h] at hltx; simp at hltx
        · exact h
      obtain ⟨g2, o2, rfl, e2⟩ : ∃ g o, ap2 = some ⟨g, o, none⟩ ∧ ∀ i (h : i < p2.length), w.cell? ⟨g, o + i * 2, none⟩ = some (.string p2[i].1) ∧ w.cell? ⟨g, o + i * 2 + 1, none⟩ = some (.string p2[i].2) := by
        rcases P2.out with h | h
        · rw [h] at hlt; simp at hlt
        · exact h
      have HB : Hid (∀ g o v, w.cell? ⟨g, o, none⟩ = some v → wr.cell? ⟨g, o, none⟩ = some v) := fun g o _ hv => (hBrP.cell (p := ⟨g, o, none⟩) (World.block_lt_of_cell? _ _ hv)).trans hv
      have x1 : wr.cell? ⟨g1, o1 + k * 2, none⟩ = some (.string p1[k].1) := HB.out _ _ _ (e1 k hltx).1
      have x2 : wr.cell? ⟨g1, o1 + k * 2 + 1, none⟩ = some (.string p1[k].2) := HB.out _ _ _ (e1 k hltx).2
      have y1 : wr.cell? ⟨g2, o2 + k * 2, none⟩ = some (.string p2[k].1) := HB.out _ _ _ (e2 k hlt).1
      have y2 : wr.cell? ⟨g2, o2 + k * 2 + 1, none⟩ = some (.string p2[k].2) := HB.out _ _ _ (e2 k hlt).2
      have HT : Hid (p1[k] = p2[k] → p1.take (k + 1) = p2.take (k + 1)) := fun heq => by
        rw [List.take_succ_eq_append_getElem hltx, List.take_succ_eq_append_getElem hlt, HE.out, heq]
      have HF : Hid (p1[k] ≠ p2[k] → p1 ≠ p2) := fun hne e => hne (by subst e; rfl)
      clear e1 e2 HB HS 
      generalize p1[k] = X at *
      generalize p2[k] = Y at *
      obtain ⟨X1, X2⟩ := X
      obtain ⟨Y1, Y2⟩ := Y
      by_cases hX1 : X1 = Y1
      · subst hX1
        by_cases hX2 : X2 = Y2
        · subst hX2
          have HT' := hide (HT.out rfl)
          clear HT HF
          go_wp2_with fail
          go_quiet (fail)
          have hb2 : Below w1.heap.size w1 (wr.drewN nq) := below_drewN hbrP nq
          go_wp2_with fail
          go_roundw
          case rel => exact ⟨k + 1, by omega, by go_num, hb2, HT'⟩
          case measure => simp [intOf]; omega
        · have HF' := hide (HF.out (fun e => hX2 (by injection e)))
          have hne : (X2.toList == Y2.toList) = false := by rw [beq_eq_false_iff_ne]; exact fun e => hX2 (bytes_inj e)
          clear HT HF
          go_wp2_with fail
          go_quiet (fail)
          have hb2 : Below w.heap.size w (wr.drewN nq) := below_drewN hBrP nq
          go_wp2_with fail
          go_ret
          rw [show R = false by rw [← HR.out]; exact decide_eq_false (fun h => HF'.out h.2.2.2.1)]
          exact ⟨rfl, hb2⟩
      · have HF' := hide (HF.out (fun e => hX1 (by injection e)))
        have hne : (X1.toList == Y1.toList) = false := by rw [beq_eq_false_iff_ne]; exact fun e => hX1 (bytes_inj e)
        clear HT HF
        go_wp2_with fail
        go_quiet (fail)
        have hb2 : Below w.heap.size w (wr.drewN nq) := below_drewN hBrP nq
        go_wp2_with fail
        go_ret
        rw [show R = false by rw [← HR.out]; exact decide_eq_false (fun h => HF'.out h.2.2.2.1)]
        exact ⟨rfl, hb2⟩
    · have HQP : Hid (p1 = p2) := by
        have h1 := HE.out
        rw [List.take_of_length_le (by omega), List.take_of_length_le (by omega)] at h1
        exact h1
      go_wp2_with fail
      go_loopw [6] (fun i wr => ∃ k : Nat, k ≤ s2.length ∧ i = .int .i64 k ∧ Below w1.heap.size w1 wr ∧ Hid (s1.take k = s2.take k)) (fun i _ => s2.length - (intOf i).toNat)
      case atStart => exact ⟨0, Nat.zero_le _, rfl, hbrP, by simp [Hid]⟩
      case round =>
        obtain ⟨k, hk, rfl, hbrS, HE⟩ := hrel
        have q1 : wr.cell? ⟨w.heap.size, 4, none⟩ = some (.slice as1 s2.length cs1) := ((hbrS.cell (p := ⟨w.heap.size, 4, none⟩) (by simp only; omega)).trans (hc1 _ _ (by simp; omega))).trans (by simp [go_sem])
        have q2 : wr.cell? ⟨w.heap.size + 1, 4, none⟩ = some (.slice as2 s2.length cs2) := ((hbrS.cell (p := ⟨w.heap.size + 1, 4, none⟩) (by simp only; omega)).trans (hc1 _ _ (by simp))).trans (by simp [go_sem])
        have hBrS : Below w.heap.size w wr := B1.trans (hbrS.mono B1.size)
        by_cases hlt : k < s2.length
        · have hltx : k < s1.length := by omega
          obtain ⟨g1, o1, rfl, e1⟩ : ∃ g o, as1 = some ⟨g, o, none⟩ ∧ ∀ i (h : i < s1.length), w.cell? ⟨g, o + i * 2, none⟩ = some (.int .i64 s1[i].1) ∧ w.cell? ⟨g, o + i * 2 + 1, none⟩ = some (.string s1[i].2) := by
            rcases S1.out with h | h
            · rw [h] at hltx; simp at hltx
            · exact h
          obtain ⟨g2, o2, rfl, e2⟩ : ∃ g o, as2 = some ⟨g, o, none⟩ ∧ ∀ i (h : i < s2.length), w.cell? ⟨g, o + i * 2, none⟩ = some (.int .i64 s2[i].1) ∧ w.cell? ⟨g, o + i * 2 + 1, none⟩ = some (.string s2[i].2) := by
            rcases S2.out with h | h
            · rw [h] at hlt; simp at hlt
            · exact h
          have HB : Hid (∀ g o v, w.cell? ⟨g, o, none⟩ = some v → wr.cell? ⟨g, o, none⟩ = some v) := fun g o _ hv => (hBrS.cell (p := ⟨g, o, none⟩) (World.block_lt_of_cell? _ _ hv)).trans hv
          have x1 : wr.cell? ⟨g1, o1 + k * 2, none⟩ = some (.int .i64 s1[k].1) := HB.out _ _ _ (e1 k hltx).1
          have x2 : wr.cell? ⟨g1, o1 + k * 2 + 1, none⟩ = some (.string s1[k].2) := HB.out _ _ _ (e1 k hltx).2
          have y1 : wr.cell? ⟨g2, o2 + k * 2, none⟩ = some (.int .i64 s2[k].1) := HB.out _ _ _ (e2 k hlt).1
          have y2 : wr.cell? ⟨g2, o2 + k * 2 + 1, none⟩ = some (.string s2[k].2) := HB.out _ _ _ (e2 k hlt).2
          have HT : Hid (s1[k] = s2[k] → s1.take (k + 1) = s2.take (k + 1)) := fun heq => by
            rw [List.take_succ_eq_append_getElem hltx, List.take_succ_eq_append_getElem hlt, HE.out, heq]
          have HF : Hid (s1[k] ≠ s2[k] → s1 ≠ s2) := fun hne e => hne (by subst e; rfl)
          clear e1 e2 HB HS 
          generalize s1[k] = X at *
          generalize s2[k] = Y at *
          obtain ⟨X1, X2⟩ := X
          obtain ⟨Y1, Y2⟩ := Y
          by_cases hX1 : X1 = Y1
          · subst hX1
            by_cases hX2 : X2 = Y2
            · subst hX2
              have HT' := hide (HT.out rfl)
              clear HT HF
              go_wp2_with fail
              go_quiet (fail)
              have hb2 : Below w1.heap.size w1 (wr.drewN nq) := below_drewN hbrS nq
              go_wp2_with fail
              go_roundw
              case rel => exact ⟨k + 1, by omega, by go_num, hb2, HT'⟩
              case measure => simp [intOf]; omega
            · have HF' := hide (HF.out (fun e => hX2 (by injection e)))
              have hne : (X2.toList == Y2.toList) = false := by rw [beq_eq_false_iff_ne]; exact fun e => hX2 (bytes_inj e)
              clear HT HF
              go_wp2_with fail
              go_quiet (fail)
              have hb2 : Below w.heap.size w (wr.drewN nq) := below_drewN hBrS nq
              go_wp2_with fail
              go_ret
              rw [show R = false by rw [← HR.out]; exact decide_eq_false (fun h => HF'.out h.2.2.2.2)]
              exact ⟨rfl, hb2⟩
          · have HF' := hide (HF.out (fun e => hX1 (by injection e)))
            have hne : (X1 == Y1) = false := by rw [beq_eq_false_iff_ne]; exact fun e => hX1 e
            clear HT HF
            go_wp2_with fail
            go_quiet (fail)
            have hb2 : Below w.heap.size w (wr.drewN nq) := below_drewN hBrS nq
            go_wp2_with fail
            go_ret
            rw [show R = false by rw [← HR.out]; exact decide_eq_false (fun h => HF'.out h.2.2.2.2)]
            exact ⟨rfl, hb2⟩
        · have HQS : Hid (s1 = s2) := by
            have h1 := HE.out
            rw [List.take_of_length_le (by omega), List.take_of_length_le (by omega)] at h1
            exact h1
          go_wp2_with fail
          go_ret
          rw [show R = true by rw [← HR.out]; exact decide_eq_true ⟨by trivial, by trivial, by trivial, HQP.out, HQS.out⟩]
          exact ⟨rfl, hBrS⟩
end Go.Proofs.YtcidoodaiimhfaaGreat

/- Whether items are the same; an item that is got. -/
namespace Go.Proofs.YtcidoodaiimhfaaGreat
open Go.RowKit

theorem sameI_self (x : Itm) : sameI x x = true := by simp [sameI]
theorem sameI_ne {x y : Itm} (h : x ≠ y) : sameI x y = false := by
  cases hq : sameI x y with
  | false => rfl
  | true =>
    unfold sameI at hq
    rw [decide_eq_true_eq] at hq
    obtain ⟨k1, t1, l1, p1, s1⟩ := x
    obtain ⟨k2, t2, l2, p2, s2⟩ := y
    simp only at hq
    obtain ⟨rfl, rfl, rfl, rfl, rfl⟩ := hq
    exact absurd rfl h
theorem get_item (a : Option Addr) (c : Nat) (s : List Ent) (now : Int) (key : ByteArray) (W : World) (hs : SpaceAt W a s) (hn : s.length ≤ 281474976710656) (o : Itm) (E : Int) (ho : getR s now key = o) (hE : chkKey s now key = E) :
    Calls Tryz.prog 6 #[.slice a s.length c, .int .i64 now, .string key] W fun e w' => (∃ b1 e1 b2 e2 b3 e3, e = .returned (.tuple #[.agg #[.int .i64 o.k, .string o.t, .slice b1 o.l.length e1, .slice b2 o.p.length e2, .slice b3 o.s.length e3], .int .i64 E]) ∧ ItemIs w' (.agg #[.int .i64 o.k, .string o.t, .slice b1 o.l.length e1, .slice b2 o.p.length e2, .slice b3 o.s.length e3]) o) ∧ Below W.heap.size W w' := by
  refine (get_tells a c s now key W hs hn).mono ?_
  rintro e w' ⟨⟨v, rfl, hi⟩, hb⟩
  have hI := hi.is (getR_right s now key)
  obtain ⟨b1, d1, b2, d2, b3, d3, rfl, -⟩ := id hi
  rw [ho] at hI ⊢
  rw [hE]
  exact ⟨⟨b1, d1, b2, d2, b3, d3, rfl, hI⟩, hb⟩
end Go.Proofs.YtcidoodaiimhfaaGreat

/- WALK of whether spaces are the same, where they are. -/
namespace Go.Proofs.YtcidoodaiimhfaaGreat
open Go.RowKit

set_option maxRecDepth 100000 in
set_option maxHeartbeats 4000000 in
theorem sameSpace_any (a b : Option Addr) (c d : Nat) (s : List Ent) (w : World) (ha : SpaceAt w a s) (hb : SpaceAt w b s) (hn : s.length ≤ 1000000) :
    Calls Tryz.prog 25 #[.slice a s.length c, .slice b s.length d] w fun e w' => e = .returned (.bool true) ∧ Below w.heap.size w w' := by
  have HA := hide ha
  have HB := hide hb
  clear ha hb
  have hne : (((s.length : Nat) : Int) != ((s.length : Nat) : Int)) = false := by simp
  go_enter Tryz.func25, Tryz.ntmps25
  go_wp2_with fail
  go_loopw [5] (fun iv wr => ∃ k : Nat, k ≤ s.length ∧ iv = .int .i64 k ∧ Below w.heap.size w wr) (fun iv _ => s.length - (intOf iv).toNat)
  case atStart => exact ⟨0, Nat.zero_le _, rfl, Below.refl _ _⟩
  case round =>
    obtain ⟨k, hk, rfl, hbr⟩ := hrel
    have hsz := hbr.size
    by_cases hlt : k < s.length
    · have hlt' : ((k : Nat) : Int) < ((s.length : Nat) : Int) := by omega
      obtain ⟨g, o, rfl, hcs⟩ : ∃ g o, a = some ⟨g, o, none⟩ ∧ ∀ i (h : i < s.length), EntAt w g (o + i * 7) s[i] := by
        rcases HA.out with h | h
        · rw [h] at hlt; simp at hlt
        · exact h
      obtain ⟨g2, o2, rfl, hcs2⟩ : ∃ g o, b = some ⟨g, o, none⟩ ∧ ∀ i (h : i < s.length), EntAt w g (o + i * 7) s[i] := by
        rcases HB.out with h | h
        · rw [h] at hlt; simp at hlt
        · exact h
      obtain ⟨a1, c1, a2, c2, a3, c3, ⟨d0, d1, d2, d3, d4, d5, d6⟩, hi⟩ := (hcs k hlt).below hbr
      obtain ⟨b1, f1, b2, f2, b3, f3, ⟨e0, e1, e2, e3, e4, e5, e6⟩, hi2⟩ := (hcs2 k hlt).below hbr
      clear hcs hcs2
      generalize s[k] = X at *
      have lg : g < wr.heap.size := World.block_lt_of_cell? _ _ d0
      have lg2 : g2 < wr.heap.size := World.block_lt_of_cell? _ _ e0
      have HKE : Hid (∀ W, Below wr.heap.size wr W → W.cell? ⟨g, o + k * 7, none⟩ = some (.string X.key) ∧ W.cell? ⟨g, o + k * 7 + 1, none⟩ = some (.int .i64 X.item.k) ∧ W.cell? ⟨g, o + k * 7 + 2, none⟩ = some (.string X.item.t) ∧ W.cell? ⟨g, o + k * 7 + 3, none⟩ = some (.slice a1 X.item.l.length c1) ∧ W.cell? ⟨g, o + k * 7 + 4, none⟩ = some (.slice a2 X.item.p.length c2) ∧ W.cell? ⟨g, o + k * 7 + 5, none⟩ = some (.slice a3 X.item.s.length c3) ∧ W.cell? ⟨g, o + k * 7 + 6, none⟩ = some (.int .i64 X.til) ∧ W.cell? ⟨g2, o2 + k * 7, none⟩ = some (.string X.key) ∧ W.cell? ⟨g2, o2 + k * 7 + 1, none⟩ = some (.int .i64 X.item.k) ∧ W.cell? ⟨g2, o2 + k * 7 + 2, none⟩ = some (.string X.item.t) ∧ W.cell? ⟨g2, o2 + k * 7 + 3, none⟩ = some (.slice b1 X.item.l.length f1) ∧ W.cell? ⟨g2, o2 + k * 7 + 4, none⟩ = some (.slice b2 X.item.p.length f2) ∧ W.cell? ⟨g2, o2 + k * 7 + 5, none⟩ = some (.slice b3 X.item.s.length f3) ∧ W.cell? ⟨g2, o2 + k * 7 + 6, none⟩ = some (.int .i64 X.til)) := fun W hW => ⟨(hW.cell (p := ⟨g, o + k * 7, none⟩) lg).trans d0, (hW.cell (p := ⟨g, o + k * 7 + 1, none⟩) lg).trans d1, (hW.cell (p := ⟨g, o + k * 7 + 2, none⟩) lg).trans d2, (hW.cell (p := ⟨g, o + k * 7 + 3, none⟩) lg).trans d3, (hW.cell (p := ⟨g, o + k * 7 + 4, none⟩) lg).trans d4, (hW.cell (p := ⟨g, o + k * 7 + 5, none⟩) lg).trans d5, (hW.cell (p := ⟨g, o + k * 7 + 6, none⟩) lg).trans d6, (hW.cell (p := ⟨g2, o2 + k * 7, none⟩) lg2).trans e0, (hW.cell (p := ⟨g2, o2 + k * 7 + 1, none⟩) lg2).trans e1, (hW.cell (p := ⟨g2, o2 + k * 7 + 2, none⟩) lg2).trans e2, (hW.cell (p := ⟨g2, o2 + k * 7 + 3, none⟩) lg2).trans e3, (hW.cell (p := ⟨g2, o2 + k * 7 + 4, none⟩) lg2).trans e4, (hW.cell (p := ⟨g2, o2 + k * 7 + 5, none⟩) lg2).trans e5, (hW.cell (p := ⟨g2, o2 + k * 7 + 6, none⟩) lg2).trans e6⟩
      have hdr : Below wr.heap.size wr wr.drew := (Below.refl _ wr).drew
      have HC : Hid (Calls Tryz.prog 22 #[.agg #[.int .i64 X.item.k, .string X.item.t, .slice a1 X.item.l.length c1, .slice a2 X.item.p.length c2, .slice a3 X.item.s.length c3], .agg #[.int .i64 X.item.k, .string X.item.t, .slice b1 X.item.l.length f1, .slice b2 X.item.p.length f2, .slice b3 X.item.s.length f3]] wr.drew fun e w' => e = .returned (.bool true) ∧ Below wr.heap.size wr w') := by
        have := sameItem_any _ _ X.item X.item wr.drew (hi.below hdr) (hi2.below hdr)
        rw [sameI_self] at this
        exact this.mono fun e w' h => ⟨h.1, h.2.os, h.2.tape, h.2.output, h.2.size, h.2.block⟩
      clear hi hi2 hdr lg lg2
      go_wp2_with fail
      go_region_held3 (fun w' => w'.cell? ⟨g, o + k * 7, none⟩ = some (.string X.key) ∧ w'.cell? ⟨g, o + k * 7 + 1, none⟩ = some (.int .i64 X.item.k) ∧ w'.cell? ⟨g, o + k * 7 + 2, none⟩ = some (.string X.item.t) ∧ w'.cell? ⟨g, o + k * 7 + 3, none⟩ = some (.slice a1 X.item.l.length c1) ∧ w'.cell? ⟨g, o + k * 7 + 4, none⟩ = some (.slice a2 X.item.p.length c2) ∧ w'.cell? ⟨g, o + k * 7 + 5, none⟩ = some (.slice a3 X.item.s.length c3) ∧ w'.cell? ⟨g, o + k * 7 + 6, none⟩ = some (.int .i64 X.til) ∧
          w'.cell? ⟨g2, o2 + k * 7, none⟩ = some (.string X.key) ∧ w'.cell? ⟨g2, o2 + k * 7 + 1, none⟩ = some (.int .i64 X.item.k) ∧ w'.cell? ⟨g2, o2 + k * 7 + 2, none⟩ = some (.string X.item.t) ∧ w'.cell? ⟨g2, o2 + k * 7 + 3, none⟩ = some (.slice b1 X.item.l.length f1) ∧ w'.cell? ⟨g2, o2 + k * 7 + 4, none⟩ = some (.slice b2 X.item.p.length f2) ∧ w'.cell? ⟨g2, o2 + k * 7 + 5, none⟩ = some (.slice b3 X.item.s.length f3) ∧ w'.cell? ⟨g2, o2 + k * 7 + 6, none⟩ = some (.int .i64 X.til)) (go_keep)
        ((go_at_call 22; refine HC.out.mono ?_; rintro e w2 ⟨rfl, hb2⟩; obtain ⟨q0, q1, q2, q3, q4, q5, q6, r0, r1, r2, r3, r4, r5, r6⟩ := HKE.out w2 hb2))
      all_goals
        have C2 : Below w.heap.size w w2 := hbr.trans (hb2.mono hsz)
        go_wp2_with fail
        go_roundw
        case rel => exact ⟨k + 1, by omega, by go_num, C2⟩
        case measure => simp [intOf]; omega
    · have hge : ¬ ((k : Nat) : Int) < ((s.length : Nat) : Int) := by omega
      go_wp2_with fail
      go_ret
      exact ⟨rfl, hbr⟩
end Go.Proofs.YtcidoodaiimhfaaGreat

/- WALK of SpaceSwept. -/
namespace Go.Proofs.YtcidoodaiimhfaaGreat
open Go.RowKit

theorem chkAt_same {s P : List Ent} (hs : SpRight s) (hP : SpRight P) (t : Int) : chkAt P t = chkAt s t := by
  unfold chkAt
  rw [chkSp_of hs, chkSp_of hP]
theorem chkKey_same {s P : List Ent} (hs : SpRight s) (hP : SpRight P) (t : Int) (k : ByteArray) : chkKey P t k = chkKey s t k := by
  unfold chkKey
  rw [chkAt_same hs hP]
theorem keys_texts (a : Option Addr) (c : Nat) (s : List Ent) (now : Int) (p : ByteArray) (W : World) (hs : SpaceAt W a s) (hn : s.length ≤ 281474976710656) (L : List ByteArray) (C : Int) (hL : keysR s now p = L) (hC : keysC s now p = C) :
    Calls Tryz.prog 9 #[.slice a s.length c, .int .i64 now, .string p] W fun e w' => (∃ ak ck, e = .returned (.tuple #[.slice ak L.length ck, .int .i64 C]) ∧ TextsAt w' ak L) ∧ Below W.heap.size W w' := by
  refine (keys_tells a c s now p W hs hn).mono ?_
  rintro e w' ⟨⟨ao, co, rfl, ho⟩, hb⟩
  rw [hL] at ho ⊢
  rw [hC]
  exact ⟨⟨ao, co, rfl, textsY ho⟩, hb⟩
theorem sweep_space (a : Option Addr) (c : Nat) (s : List Ent) (now : Int) (W : World) (hs : SpaceAt W a s) (hn : s.length ≤ 281474976710656) (P : List Ent) (N C : Int) (hP : sweepR s now = P) (hN : sweepN s now = N) (hC : chkAt s now = C) :
    Calls Tryz.prog 10 #[.slice a s.length c, .int .i64 now] W fun e w' => (∃ ao co, e = .returned (.tuple #[.slice ao P.length co, .int .i64 N, .int .i64 C]) ∧ SpaceAt w' ao P) ∧ Below W.heap.size W w' := by
  refine (sweep_tells a c s now W hs hn).mono ?_
  rintro e w' ⟨⟨ao, co, l, rfl, hm, ho⟩, hb⟩
  have hr := sweepR_right s now
  have := ho.space hm hr
  rw [hP] at this ⊢
  rw [hN, hC]
  exact ⟨⟨ao, co, rfl, this⟩, hb⟩
theorem until_two (a : Option Addr) (c : Nat) (s : List Ent) (now : Int) (key : ByteArray) (W : World) (hs : SpaceAt W a s) (hn : s.length ≤ 281474976710656) (U E : Int) (hU : untilR s now key = U) (hE : untilE s now key = E) :
    Calls Tryz.prog 8 #[.slice a s.length c, .int .i64 now, .string key] W fun e w' => e = .returned (.tuple #[.int .i64 U, .int .i64 E]) ∧ Below W.heap.size W w' := by
  have := until_tells a c s now key W hs hn
  rw [hU, hE] at this
  exact this
theorem texts_same {a b : Option Addr} {c d : Nat} {L : List ByteArray} {W : World} (ha : TextsAt W a L) (hb : TextsAt W b L) (hn : L.length ≤ 281474976710656) :
    Calls Tryz.prog 24 #[.slice a L.length c, .slice b L.length d] W fun e w' => e = .returned (.bool true) ∧ Below W.heap.size W w' := by
  have := sameT_any a b c d L L W ha hb hn
  rw [decide_eq_true rfl] at this
  exact this
theorem items_same {v u : Value} {o : Itm} {W : World} (hv : ItemIs W v o) (hu : ItemIs W u o) :
    Calls Tryz.prog 22 #[v, u] W fun e w' => e = .returned (.bool true) ∧ Below W.heap.size W w' := by
  have := sameItem_any v u o o W hv hu
  rw [sameI_self] at this
  exact this
theorem keysR_len (s : List Ent) (now : Int) (p : ByteArray) (h : SpRight s) : (keysR s now p).length ≤ 16 := by
  unfold keysR
  have := h.n
  split
  · split
    · exact Nat.le_trans (keysE_len s now p) this
    · simp
  · simp
set_option maxRecDepth 100000 in
set_option maxHeartbeats 4000000 in
theorem spaceSwept_walk (a : Option Addr) (c : Nat) (s : List Ent) (now late : Int) (key p : ByteArray) (w : World) (hs : SpaceAt w a s) (hn : s.length ≤ 281474976710656) :
    Calls Tryz.prog 4 #[.slice a s.length c, .int .i64 now, .int .i64 late, .string key, .string p] w fun e w' => e = .returned (.bool true) ∧ Below w.heap.size w w' := by
  have HBG : Hid (∀ W, Calls Tryz.prog 19 #[] W fun e w' => e = .returned (.bool true) ∧ Below W.heap.size W w') := fun W => spaceBegun_any W
  by_cases h0 : chkAt s now = 0
  · have hr := spRight (chkSp_chkAt h0).1
    have hsn := hr.n
    obtain ⟨P, hP⟩ : ∃ P, sweepS s now = P := ⟨_, rfl⟩
    have hPr : SpRight P := hP ▸ hr.filter _
    have hPn := hPr.n
    have hPR : sweepR s now = P := by unfold sweepR; rw [if_pos h0]; exact hP
    obtain ⟨N, hN⟩ : ∃ N, sweepN s now = N := ⟨_, rfl⟩
    have HS1 : Hid (∀ W, SpaceAt W a s → Calls Tryz.prog 10 #[.slice a s.length c, .int .i64 now] W fun e w' => (∃ ao co, e = .returned (.tuple #[.slice ao P.length co, .int .i64 N, .int .i64 0]) ∧ SpaceAt w' ao P) ∧ Below W.heap.size W w') := fun W h => sweep_space a c s now W h hn P N 0 hPR hN h0
    by_cases h1 : late < now
    · have h1' : decide (late < now) = true := decide_eq_true h1
      clear h0 h1 hP hPr hPn hPR hN hr hsn
      have SS_w := hs
      clear hs
      go_enter Tryz.func4, Tryz.ntmps4
      go_wp2_with fail
      refine (HBG.out w).mono ?_
      rintro e u0 ⟨rfl, hbu0⟩
      have SS_u0 := SS_w.below hbu0
      have B_u0 : Below w.heap.size w u0 := hbu0
      clear SS_w hbu0
      go_wp2_with fail
      refine (HS1.out u0 SS_u0).mono ?_
      rintro e u1 ⟨⟨ao, co, rfl, SA_u1⟩, hbu1⟩
      have SS_u1 := SS_u0.below hbu1
      have B_u1 := B_u0.trans (hbu1.mono B_u0.size)
      clear SS_u0 B_u0 hbu1
      go_wp2_with fail
      refine bodyPost_ret (v := .bool true) (by simp [results, Tryz.results4, go_sem]) rfl ⟨rfl, B_u1⟩
    · have h1' : decide (late < now) = false := decide_eq_false h1
      have hle : now ≤ late := by omega
      have hce : chkAt P now = 0 := by rw [chkAt_same hr hPr]; exact h0
      have hPP : sweepR P now = P := by unfold sweepR; rw [if_pos hce, ← hP]; exact sweep_twice s now
      have hPN : sweepN P now = 0 := by
        unfold sweepN
        rw [if_pos hce, ← hP, sweep_twice s now]
        omega
      obtain ⟨o, ho⟩ : ∃ o, getR s late key = o := ⟨_, rfl⟩
      obtain ⟨E, hE⟩ : ∃ E, chkKey s late key = E := ⟨_, rfl⟩
      have hlk : lookE P late key = lookE s late key := by rw [← hP]; exact sweep_look hr hle key
      obtain ⟨L, hL⟩ : ∃ L, keysR s late p = L := ⟨_, rfl⟩
      obtain ⟨C, hC⟩ : ∃ C, keysC s late p = C := ⟨_, rfl⟩
      have hLn : L.length ≤ 281474976710656 := by have := keysR_len s late p hr; rw [hL] at this; omega
      obtain ⟨U, hU⟩ : ∃ U, untilR s late key = U := ⟨_, rfl⟩
      obtain ⟨V, hV⟩ : ∃ V, untilE s late key = V := ⟨_, rfl⟩
      have HG1 : Hid (∀ W, SpaceAt W a s → Calls Tryz.prog 6 #[.slice a s.length c, .int .i64 late, .string key] W fun e w' => (∃ b1 e1 b2 e2 b3 e3, e = .returned (.tuple #[.agg #[.int .i64 o.k, .string o.t, .slice b1 o.l.length e1, .slice b2 o.p.length e2, .slice b3 o.s.length e3], .int .i64 E]) ∧ ItemIs w' (.agg #[.int .i64 o.k, .string o.t, .slice b1 o.l.length e1, .slice b2 o.p.length e2, .slice b3 o.s.length e3]) o) ∧ Below W.heap.size W w') := fun W h => get_item a c s late key W h hn o E ho hE
      have HG2 : Hid (∀ ao co W, SpaceAt W ao P → Calls Tryz.prog 6 #[.slice ao P.length co, .int .i64 late, .string key] W fun e w' => (∃ b1 e1 b2 e2 b3 e3, e = .returned (.tuple #[.agg #[.int .i64 o.k, .string o.t, .slice b1 o.l.length e1, .slice b2 o.p.length e2, .slice b3 o.s.length e3], .int .i64 E]) ∧ ItemIs w' (.agg #[.int .i64 o.k, .string o.t, .slice b1 o.l.length e1, .slice b2 o.p.length e2, .slice b3 o.s.length e3]) o) ∧ Below W.heap.size W w') := fun ao co W h => get_item ao co P late key W h (by omega) o E (by unfold getR at ho ⊢; rw [chkKey_same hr hPr, hlk]; exact ho) (by rw [chkKey_same hr hPr]; exact hE)
      have HK1 : Hid (∀ W, SpaceAt W a s → Calls Tryz.prog 9 #[.slice a s.length c, .int .i64 late, .string p] W fun e w' => (∃ ak ck, e = .returned (.tuple #[.slice ak L.length ck, .int .i64 C]) ∧ TextsAt w' ak L) ∧ Below W.heap.size W w') := fun W h => keys_texts a c s late p W h hn L C hL hC
      have HK2 : Hid (∀ ao co W, SpaceAt W ao P → Calls Tryz.prog 9 #[.slice ao P.length co, .int .i64 late, .string p] W fun e w' => (∃ ak ck, e = .returned (.tuple #[.slice ak L.length ck, .int .i64 C]) ∧ TextsAt w' ak L) ∧ Below W.heap.size W w') := fun ao co W h => keys_texts ao co P late p W h (by omega) L C (by unfold keysR at hL ⊢; rw [chkAt_same hr hPr, ← hP, sweep_keys s hle p]; exact hL) (by unfold keysC at hC ⊢; rw [chkAt_same hr hPr]; exact hC)
      have HU1 : Hid (∀ W, SpaceAt W a s → Calls Tryz.prog 8 #[.slice a s.length c, .int .i64 late, .string key] W fun e w' => e = .returned (.tuple #[.int .i64 U, .int .i64 V]) ∧ Below W.heap.size W w') := fun W h => until_two a c s late key W h hn U V hU hV
      have HU2 : Hid (∀ ao co W, SpaceAt W ao P → Calls Tryz.prog 8 #[.slice ao P.length co, .int .i64 late, .string key] W fun e w' => e = .returned (.tuple #[.int .i64 U, .int .i64 V]) ∧ Below W.heap.size W w') := fun ao co W h => until_two ao co P late key W h (by omega) U V (by unfold untilR at hU ⊢; rw [chkKey_same hr hPr, hlk]; exact hU) (by unfold untilE at hV ⊢; rw [chkKey_same hr hPr, hlk]; exact hV)
      have HS2 : Hid (∀ ao co W, SpaceAt W ao P → Calls Tryz.prog 10 #[.slice ao P.length co, .int .i64 now] W fun e w' => (∃ ap cp, e = .returned (.tuple #[.slice ap P.length cp, .int .i64 0, .int .i64 0]) ∧ SpaceAt w' ap P) ∧ Below W.heap.size W w') := fun ao co W h => sweep_space ao co P now W h (by omega) P 0 0 hPP hPN hce
      have HOO : Hid (∀ v u W, ItemIs W v o → ItemIs W u o → Calls Tryz.prog 22 #[v, u] W fun e w' => e = .returned (.bool true) ∧ Below W.heap.size W w') := fun v u W h1 h2 => items_same h1 h2
      have HTT : Hid (∀ ak ck al cl W, TextsAt W ak L → TextsAt W al L → Calls Tryz.prog 24 #[.slice ak L.length ck, .slice al L.length cl] W fun e w' => e = .returned (.bool true) ∧ Below W.heap.size W w') := fun ak ck al cl W h1 h2 => texts_same h1 h2 hLn
      have HSS : Hid (∀ ao co ap cp W, SpaceAt W ao P → SpaceAt W ap P → Calls Tryz.prog 25 #[.slice ao P.length co, .slice ap P.length cp] W fun e w' => e = .returned (.bool true) ∧ Below W.heap.size W w') := fun ao co ap cp W h1 h2 => sameSpace_any ao ap co cp P W h1 h2 (by omega)
      clear h0 h1 hle hP hPr hPn hPR hN hr hsn hce hPP hPN ho hE hlk hL hC hLn hU hV
      have SS_w := hs
      clear hs
      go_enter Tryz.func4, Tryz.ntmps4
      go_wp2_with fail
      refine (HBG.out w).mono ?_
      rintro e u0 ⟨rfl, hbu0⟩
      have SS_u0 := SS_w.below hbu0
      have B_u0 : Below w.heap.size w u0 := hbu0
      clear SS_w hbu0
      go_wp2_with fail
      refine (HS1.out u0 SS_u0).mono ?_
      rintro e u1 ⟨⟨ao, co, rfl, SA_u1⟩, hbu1⟩
      have SS_u1 := SS_u0.below hbu1
      have B_u1 := B_u0.trans (hbu1.mono B_u0.size)
      clear SS_u0 B_u0 hbu1
      go_wp2_with fail
      refine (HG1.out u1 SS_u1).mono ?_
      rintro e u2 ⟨⟨b1, e1, b2, e2, b3, e3, rfl, IX_u2⟩, hbu2⟩
      have SS_u2 := SS_u1.below hbu2
      have SA_u2 := SA_u1.below hbu2
      have B_u2 := B_u1.trans (hbu2.mono B_u1.size)
      clear SS_u1 SA_u1 B_u1 hbu2
      obtain ⟨V3, hV3⟩ : ∃ V3, u2.alloc (.cells #[.int .i64 o.k, .string o.t, .slice b1 o.l.length e1, .slice b2 o.p.length e2, .slice b3 o.s.length e3] 28) = V3 := ⟨_, rfl⟩
      have AV3 : Below u2.heap.size u2 V3 := hV3 ▸ (Below.refl _ u2).alloc (Nat.le_refl _) _
      have BX_V3 : V3.heap[u2.heap.size]? = some (.cells #[.int .i64 o.k, .string o.t, .slice b1 o.l.length e1, .slice b2 o.p.length e2, .slice b3 o.s.length e3] 28 (0, 0)) := hV3 ▸ allocY_new u2 _
      have lBX_V3 := (Array.getElem?_eq_some_iff.1 BX_V3).1
      have SS_V3 := SS_u2.below AV3
      have SA_V3 := SA_u2.below AV3
      have IX_V3 := IX_u2.below AV3
      have B_V3 := B_u2.trans (AV3.mono B_u2.size)
      clear SS_u2 SA_u2 IX_u2 B_u2 AV3
      go_wp2_with fail
      refine (HG2.out ao co V3 SA_V3).mono ?_
      rintro e u4 ⟨⟨f1, g1, f2, g2, f3, g3, rfl, IY_u4⟩, hbu4⟩
      have BX_u4 := (hbu4.block _ lBX_V3).trans BX_V3
      have lBX_u4 := (Array.getElem?_eq_some_iff.1 BX_u4).1
      have SS_u4 := SS_V3.below hbu4
      have SA_u4 := SA_V3.below hbu4
      have IX_u4 := IX_V3.below hbu4
      have B_u4 := B_V3.trans (hbu4.mono B_V3.size)
      clear BX_V3 lBX_V3 SS_V3 SA_V3 IX_V3 B_V3 hbu4 hV3
      obtain ⟨V5, hV5⟩ : ∃ V5, u4.alloc (.cells #[.int .i64 o.k, .string o.t, .slice f1 o.l.length g1, .slice f2 o.p.length g2, .slice f3 o.s.length g3] 28) = V5 := ⟨_, rfl⟩
      have AV5 : Below u4.heap.size u4 V5 := hV5 ▸ (Below.refl _ u4).alloc (Nat.le_refl _) _
      have BY_V5 : V5.heap[u4.heap.size]? = some (.cells #[.int .i64 o.k, .string o.t, .slice f1 o.l.length g1, .slice f2 o.p.length g2, .slice f3 o.s.length g3] 28 (0, 0)) := hV5 ▸ allocY_new u4 _
      have lBY_V5 := (Array.getElem?_eq_some_iff.1 BY_V5).1
      have BX_V5 := (AV5.block _ lBX_u4).trans BX_u4
      have lBX_V5 := (Array.getElem?_eq_some_iff.1 BX_V5).1
      have SS_V5 := SS_u4.below AV5
      have SA_V5 := SA_u4.below AV5
      have IX_V5 := IX_u4.below AV5
      have IY_V5 := IY_u4.below AV5
      have B_V5 := B_u4.trans (AV5.mono B_u4.size)
      clear BX_u4 lBX_u4 SS_u4 SA_u4 IX_u4 IY_u4 B_u4 AV5
      go_wp2_with fail
      refine (HK1.out V5 SS_V5).mono ?_
      rintro e u6 ⟨⟨ak, ck, rfl, TX_u6⟩, hbu6⟩
      have BX_u6 := (hbu6.block _ lBX_V5).trans BX_V5
      have lBX_u6 := (Array.getElem?_eq_some_iff.1 BX_u6).1
      have BY_u6 := (hbu6.block _ lBY_V5).trans BY_V5
      have lBY_u6 := (Array.getElem?_eq_some_iff.1 BY_u6).1
      have SS_u6 := SS_V5.below hbu6
      have SA_u6 := SA_V5.below hbu6
      have IX_u6 := IX_V5.below hbu6
      have IY_u6 := IY_V5.below hbu6
      have B_u6 := B_V5.trans (hbu6.mono B_V5.size)
      clear BX_V5 lBX_V5 BY_V5 lBY_V5 SS_V5 SA_V5 IX_V5 IY_V5 B_V5 hbu6 hV5
      go_wp2_with fail
      refine (HK2.out ao co u6 SA_u6).mono ?_
      rintro e u7 ⟨⟨al, cl, rfl, TY_u7⟩, hbu7⟩
      have BX_u7 := (hbu7.block _ lBX_u6).trans BX_u6
      have lBX_u7 := (Array.getElem?_eq_some_iff.1 BX_u7).1
      have BY_u7 := (hbu7.block _ lBY_u6).trans BY_u6
      have lBY_u7 := (Array.getElem?_eq_some_iff.1 BY_u7).1
      have SS_u7 := SS_u6.below hbu7
      have SA_u7 := SA_u6.below hbu7
      have IX_u7 := IX_u6.below hbu7
      have IY_u7 := IY_u6.below hbu7
      have TX_u7 := TX_u6.below hbu7
      have B_u7 := B_u6.trans (hbu7.mono B_u6.size)
      clear BX_u6 lBX_u6 BY_u6 lBY_u6 SS_u6 SA_u6 IX_u6 IY_u6 TX_u6 B_u6 hbu7
      go_wp2_with fail
      refine (HU1.out u7 SS_u7).mono ?_
      rintro e u8 ⟨rfl, hbu8⟩
      have BX_u8 := (hbu8.block _ lBX_u7).trans BX_u7
      have lBX_u8 := (Array.getElem?_eq_some_iff.1 BX_u8).1
      have BY_u8 := (hbu8.block _ lBY_u7).trans BY_u7
      have lBY_u8 := (Array.getElem?_eq_some_iff.1 BY_u8).1
      have SS_u8 := SS_u7.below hbu8
      have SA_u8 := SA_u7.below hbu8
      have IX_u8 := IX_u7.below hbu8
      have IY_u8 := IY_u7.below hbu8
      have TX_u8 := TX_u7.below hbu8
      have TY_u8 := TY_u7.below hbu8
      have B_u8 := B_u7.trans (hbu8.mono B_u7.size)
      clear BX_u7 lBX_u7 BY_u7 lBY_u7 SS_u7 SA_u7 IX_u7 IY_u7 TX_u7 TY_u7 B_u7 hbu8
      go_wp2_with fail
      refine (HU2.out ao co u8 SA_u8).mono ?_
      rintro e u9 ⟨rfl, hbu9⟩
      have BX_u9 := (hbu9.block _ lBX_u8).trans BX_u8
      have lBX_u9 := (Array.getElem?_eq_some_iff.1 BX_u9).1
      have BY_u9 := (hbu9.block _ lBY_u8).trans BY_u8
      have lBY_u9 := (Array.getElem?_eq_some_iff.1 BY_u9).1
      have SS_u9 := SS_u8.below hbu9
      have SA_u9 := SA_u8.below hbu9
      have IX_u9 := IX_u8.below hbu9
      have IY_u9 := IY_u8.below hbu9
      have TX_u9 := TX_u8.below hbu9
      have TY_u9 := TY_u8.below hbu9
      have B_u9 := B_u8.trans (hbu9.mono B_u8.size)
      clear BX_u8 lBX_u8 BY_u8 lBY_u8 SS_u8 SA_u8 IX_u8 IY_u8 TX_u8 TY_u8 B_u8 hbu9
      go_wp2_with fail
      refine (HS2.out ao co u9 SA_u9).mono ?_
      rintro e u10 ⟨⟨ap, cp, rfl, SB_u10⟩, hbu10⟩
      have BX_u10 := (hbu10.block _ lBX_u9).trans BX_u9
      have lBX_u10 := (Array.getElem?_eq_some_iff.1 BX_u10).1
      have BY_u10 := (hbu10.block _ lBY_u9).trans BY_u9
      have lBY_u10 := (Array.getElem?_eq_some_iff.1 BY_u10).1
      have SS_u10 := SS_u9.below hbu10
      have SA_u10 := SA_u9.below hbu10
      have IX_u10 := IX_u9.below hbu10
      have IY_u10 := IY_u9.below hbu10
      have TX_u10 := TX_u9.below hbu10
      have TY_u10 := TY_u9.below hbu10
      have B_u10 := B_u9.trans (hbu10.mono B_u9.size)
      clear BX_u9 lBX_u9 BY_u9 lBY_u9 SS_u9 SA_u9 IX_u9 IY_u9 TX_u9 TY_u9 B_u9 hbu10
      have x0 : u10.cell? ⟨u2.heap.size, 0, none⟩ = some (.int .i64 o.k) := by simp [World.cell?, BX_u10]
      have x1 : u10.cell? ⟨u2.heap.size, 1, none⟩ = some (.string o.t) := by simp [World.cell?, BX_u10]
      have x2 : u10.cell? ⟨u2.heap.size, 2, none⟩ = some (.slice b1 o.l.length e1) := by simp [World.cell?, BX_u10]
      have x3 : u10.cell? ⟨u2.heap.size, 3, none⟩ = some (.slice b2 o.p.length e2) := by simp [World.cell?, BX_u10]
      have x4 : u10.cell? ⟨u2.heap.size, 4, none⟩ = some (.slice b3 o.s.length e3) := by simp [World.cell?, BX_u10]
      have y0 : u10.cell? ⟨u4.heap.size, 0, none⟩ = some (.int .i64 o.k) := by simp [World.cell?, BY_u10]
      have y1 : u10.cell? ⟨u4.heap.size, 1, none⟩ = some (.string o.t) := by simp [World.cell?, BY_u10]
      have y2 : u10.cell? ⟨u4.heap.size, 2, none⟩ = some (.slice f1 o.l.length g1) := by simp [World.cell?, BY_u10]
      have y3 : u10.cell? ⟨u4.heap.size, 3, none⟩ = some (.slice f2 o.p.length g2) := by simp [World.cell?, BY_u10]
      have y4 : u10.cell? ⟨u4.heap.size, 4, none⟩ = some (.slice f3 o.s.length g3) := by simp [World.cell?, BY_u10]
      go_wp2_with fail
      refine (HOO.out _ _ u10 IX_u10 IY_u10).mono ?_
      rintro e u11 ⟨rfl, hbu11⟩
      have SA_u11 := SA_u10.below hbu11
      have TX_u11 := TX_u10.below hbu11
      have TY_u11 := TY_u10.below hbu11
      have SB_u11 := SB_u10.below hbu11
      have B_u11 := B_u10.trans (hbu11.mono B_u10.size)
      clear SA_u10 TX_u10 TY_u10 SB_u10 B_u10 IX_u10 IY_u10 BX_u10 lBX_u10 BY_u10 lBY_u10 SS_u10 hbu11 x0 x1 x2 x3 x4 y0 y1 y2 y3 y4
      go_wp2_with fail
      refine (HTT.out ak ck al cl u11 TX_u11 TY_u11).mono ?_
      rintro e u12 ⟨rfl, hbu12⟩
      have SA_u12 := SA_u11.below hbu12
      have SB_u12 := SB_u11.below hbu12
      have B_u12 := B_u11.trans (hbu12.mono B_u11.size)
      clear SA_u11 SB_u11 B_u11 TX_u11 TY_u11 hbu12
      go_wp2_with fail
      refine (HSS.out ao co ap cp u12 SA_u12 SB_u12).mono ?_
      rintro e u13 ⟨rfl, hbu13⟩
      have SA_u13 := SA_u12.below hbu13
      have SB_u13 := SB_u12.below hbu13
      have B_u13 := B_u12.trans (hbu13.mono B_u12.size)
      clear SA_u12 SB_u12 B_u12 hbu13
      go_wp2_with fail
      refine bodyPost_ret (v := .bool true) (by simp [results, Tryz.results4, go_sem]) rfl ⟨rfl, B_u13⟩
  · have h0' : (chkAt s now == 0) = false := by rw [beq_eq_false_iff_ne]; exact h0
    have h0'' : (chkAt s now != 0) = true := by simpa using h0
    have HSE : Hid (∀ W, SpaceAt W a s → Calls Tryz.prog 10 #[.slice a s.length c, .int .i64 now] W fun e w' => (∃ ao co, e = .returned (.tuple #[.slice ao 0 co, .int .i64 0, .int .i64 (chkAt s now)])) ∧ Below W.heap.size W w') := fun W h => by
      refine (sweep_space a c s now W h hn [] 0 _ (by unfold sweepR; rw [if_neg h0]) (by unfold sweepN; rw [if_neg h0]) rfl).mono ?_
      rintro e w' ⟨⟨ao, co, rfl, -⟩, hb⟩
      exact ⟨⟨ao, co, rfl⟩, hb⟩
    clear h0
    generalize chkAt s now = E at *
    have SS_w := hs
    clear hs
    go_enter Tryz.func4, Tryz.ntmps4
    go_wp2_with fail
    refine (HBG.out w).mono ?_
    rintro e u0 ⟨rfl, hbu0⟩
    have SS_u0 := SS_w.below hbu0
    have B_u0 : Below w.heap.size w u0 := hbu0
    clear SS_w hbu0
    go_wp2_with fail
    refine (HSE.out u0 SS_u0).mono ?_
    rintro e u1 ⟨⟨ao, co, rfl⟩, hbu1⟩
    have SS_u1 := SS_u0.below hbu1
    have B_u1 := B_u0.trans (hbu1.mono B_u0.size)
    clear SS_u0 B_u0 hbu1
    go_wp2_with fail
    refine bodyPost_ret (v := .bool true) (by simp [results, Tryz.results4, go_sem]) rfl ⟨rfl, B_u1⟩
end Go.Proofs.YtcidoodaiimhfaaGreat

/- spaceIs; what is wrong with nothing. -/
namespace Go.Proofs.YtcidoodaiimhfaaGreat
open Go.RowKit

theorem btY {A B C : World} (h : Below A.heap.size A B) (k : Below B.heap.size B C) : Below A.heap.size A C := h.trans (k.mono h.size)
set_option maxRecDepth 100000 in
set_option maxHeartbeats 2000000 in
theorem spaceIs_any (a b : Option Addr) (c d : Nat) (P : List Ent) (E : Int) (w : World) (ha : SpaceAt w a P) (hb : SpaceAt w b P) (hE : E ≠ 0 → P = []) (hn : P.length ≤ 1000000) :
    Calls Tryz.prog 23 #[.slice a P.length c, .int .i64 E, .int .i64 E, .slice b P.length d] w fun e w' => e = .returned (.bool true) ∧ Below w.heap.size w w' := by
  by_cases h0 : E = 0
  · subst h0
    have HS := hide (sameSpace_any a b c d P w ha hb hn)
    clear ha hb hE
    go_enter Tryz.func23, Tryz.ntmps23
    go_wp2_with fail
    refine HS.out.mono ?_
    rintro e w1 ⟨rfl, hb1⟩
    go_wp2_with fail
    go_ret
    exact ⟨rfl, hb1⟩
  · obtain rfl := hE h0
    have h1 : (E == 0) = false := by rw [beq_eq_false_iff_ne]; exact h0
    have h2 : (E != 0) = true := by simpa using h0
    have HS : Hid (Calls Tryz.prog 25 #[.slice a 0 c, .slice none 0 0] w fun e w' => e = .returned (.bool true) ∧ Below w.heap.size w w') := sameSpace_any a none c 0 [] w (.inl rfl) (.inl rfl) (Nat.zero_le _)
    show Calls Tryz.prog 23 #[.slice a 0 c, .int .i64 E, .int .i64 E, .slice b 0 d] w _
    clear ha hb hE h0
    go_enter Tryz.func23, Tryz.ntmps23
    go_wp2_with fail
    refine HS.out.mono ?_
    rintro e w1 ⟨rfl, hb1⟩
    go_wp2_with fail
    go_ret
    exact ⟨rfl, hb1⟩
def CGx0 (a : Option Addr) (c : Nat) (s : List Ent) (now : Int) (key : ByteArray) (o : Itm) : Prop := ∀ W, SpaceAt W a s → Calls Tryz.prog 6 #[.slice a s.length c, .int .i64 now, .string key] W fun e w' => (∃ b1 e1 b2 e2 b3 e3, e = .returned (.tuple #[.agg #[.int .i64 o.k, .string o.t, .slice b1 o.l.length e1, .slice b2 o.p.length e2, .slice b3 o.s.length e3], .int .i64 0]) ∧ ItemIs w' (.agg #[.int .i64 o.k, .string o.t, .slice b1 o.l.length e1, .slice b2 o.p.length e2, .slice b3 o.s.length e3]) o) ∧ Below W.heap.size W w'
def CPx0 (a : Option Addr) (c : Nat) (s : List Ent) (now : Int) (key : ByteArray) (x : Itm) (til : Int) (p1 : Option Addr) (q1 : Nat) (p2 : Option Addr) (q2 : Nat) (p3 : Option Addr) (q3 : Nat) (P : List Ent) (EP : Int) : Prop := ∀ W, SpaceAt W a s → ItemIs W (.agg #[.int .i64 x.k, .string x.t, .slice p1 x.l.length q1, .slice p2 x.p.length q2, .slice p3 x.s.length q3]) x → Calls Tryz.prog 7 #[.slice a s.length c, .int .i64 now, .string key, .agg #[.int .i64 x.k, .string x.t, .slice p1 x.l.length q1, .slice p2 x.p.length q2, .slice p3 x.s.length q3], .int .i64 til] W fun e w' => (∃ ao co, e = .returned (.tuple #[.slice ao P.length co, .int .i64 EP]) ∧ SpaceAt w' ao P) ∧ Below W.heap.size W w'
def CUx0 (a : Option Addr) (c : Nat) (s : List Ent) (now : Int) (key : ByteArray) (d : Ent) : Prop := ∀ W, SpaceAt W a s → Calls Tryz.prog 8 #[.slice a s.length c, .int .i64 now, .string key] W fun e w' => e = .returned (.tuple #[.int .i64 d.til, .int .i64 0]) ∧ Below W.heap.size W w'
def CKx0 (a : Option Addr) (c : Nat) (s : List Ent) (now : Int) (p : ByteArray) (EG : Int) : Prop := ∀ W, SpaceAt W a s → Calls Tryz.prog 9 #[.slice a s.length c, .int .i64 now, .string p] W fun e w' => (∃ ak ck, e = .returned (.tuple #[.slice ak 0 ck, .int .i64 EG])) ∧ Below W.heap.size W w'
def CSx0 (a : Option Addr) (c : Nat) (s : List Ent) (now : Int) (Q : List Ent) : Prop := ∀ W, SpaceAt W a s → Calls Tryz.prog 10 #[.slice a s.length c, .int .i64 now] W fun e w' => (∃ aq cq, e = .returned (.tuple #[.slice aq Q.length cq, .int .i64 (((s.length : Nat) : Int) - ((Q.length : Nat) : Int)), .int .i64 0]) ∧ SpaceAt w' aq Q) ∧ Below W.heap.size W w'
def CCAx0 (a : Option Addr) (c : Nat) (s : List Ent) (now : Int) (key : ByteArray) : Prop := ∀ W, SpaceAt W a s → Calls Tryz.prog 11 #[.slice a s.length c, .int .i64 now, .string key] W fun e w' => e = .returned (.int .i64 0) ∧ Below W.heap.size W w'
def CCBx0 (a : Option Addr) (c : Nat) (s : List Ent) (now : Int) : Prop := ∀ W, SpaceAt W a s → Calls Tryz.prog 11 #[.slice a s.length c, .int .i64 now, .string ⟨#[]⟩] W fun e w' => e = .returned (.int .i64 0) ∧ Below W.heap.size W w'
def CNx0 (x : Itm) : Prop := ∀ e1 f1 e2 f2 e3 f3 W, Calls Tryz.prog 12 #[.agg #[.int .i64 x.k, .string x.t, .slice e1 x.l.length f1, .slice e2 x.p.length f2, .slice e3 x.s.length f3]] W fun e w' => e = .returned (.bool true) ∧ Below W.heap.size W w'
def CLx0 (a : Option Addr) (c : Nat) (s : List Ent) (now : Int) (key : ByteArray) (d : Ent) : Prop := ∀ w0 W, Below w0.heap.size w0 W → SpaceAt w0 a s → Calls Tryz.prog 15 #[.slice a s.length c, .int .i64 now, .string key] W fun e w' => (∃ y1 z1 y2 z2 y3 z3, e = .returned (.agg #[.string d.key, .int .i64 d.item.k, .string d.item.t, .slice y1 d.item.l.length z1, .slice y2 d.item.p.length z2, .slice y3 d.item.s.length z3, .int .i64 d.til]) ∧ ItemIs w0 (.agg #[.int .i64 d.item.k, .string d.item.t, .slice y1 d.item.l.length z1, .slice y2 d.item.p.length z2, .slice y3 d.item.s.length z3]) d.item) ∧ Below W.heap.size W w'
def CPOx0 (a : Option Addr) (c : Nat) (s : List Ent) (now : Int) (key : ByteArray) (x : Itm) (til : Int) (p1 : Option Addr) (q1 : Nat) (p2 : Option Addr) (q2 : Nat) (p3 : Option Addr) (q3 : Nat) (P : List Ent) (EP : Int) : Prop := ∀ W, SpaceAt W a s → ItemIs W (.agg #[.int .i64 x.k, .string x.t, .slice p1 x.l.length q1, .slice p2 x.p.length q2, .slice p3 x.s.length q3]) x → Calls Tryz.prog 16 #[.slice a s.length c, .int .i64 now, .string key, .agg #[.int .i64 x.k, .string x.t, .slice p1 x.l.length q1, .slice p2 x.p.length q2, .slice p3 x.s.length q3], .int .i64 til] W fun e w' => (∃ ap cp, e = .returned (.tuple #[.slice ap P.length cp, .int .i64 EP]) ∧ SpaceAt w' ap P) ∧ Below W.heap.size W w'
def CCGx0 (p : ByteArray) (EG : Int) : Prop := ∀ W, Calls Tryz.prog 14 #[.string p] W fun e w' => e = .returned (.int .i64 EG) ∧ Below W.heap.size W w'
def CSOx0 (a : Option Addr) (c : Nat) (s : List Ent) (now : Int) (Q : List Ent) : Prop := ∀ W, SpaceAt W a s → Calls Tryz.prog 18 #[.slice a s.length c, .int .i64 now] W fun e w' => (∃ ar cr, e = .returned (.slice ar Q.length cr) ∧ SpaceAt w' ar Q) ∧ Below W.heap.size W w'
def CBGx0  : Prop := ∀ W, Calls Tryz.prog 19 #[] W fun e w' => e = .returned (.bool true) ∧ Below W.heap.size W w'
def CCKx0 (a : Option Addr) (c : Nat) (s : List Ent) (CS : Int) : Prop := ∀ W, SpaceAt W a s → Calls Tryz.prog 20 #[.slice a s.length c] W fun e w' => e = .returned (.int .i64 CS) ∧ Below W.heap.size W w'
def CCSx0 (a : Option Addr) (c : Nat) (s : List Ent) (CS : Int) : Prop := ∀ W, SpaceAt W a s → Calls Tryz.prog 21 #[.slice a s.length c] W fun e w' => e = .returned (.int .i64 CS) ∧ Below W.heap.size W w'
def COOx0 (o : Itm) (d : Ent) : Prop := ∀ v u W, ItemIs W v o → ItemIs W u d.item → Calls Tryz.prog 22 #[v, u] W fun e w' => e = .returned (.bool true) ∧ Below W.heap.size W w'
def CSI1x0 (P : List Ent) (EP : Int) : Prop := ∀ ao co ap cp W, SpaceAt W ao P → SpaceAt W ap P → Calls Tryz.prog 23 #[.slice ao P.length co, .int .i64 EP, .int .i64 EP, .slice ap P.length cp] W fun e w' => e = .returned (.bool true) ∧ Below W.heap.size W w'
def CTTx0  : Prop := ∀ (ak : Option Addr) (ck : Nat) (W : World), Calls Tryz.prog 24 #[.slice ak 0 ck, .slice none 0 0] W fun e w' => e = .returned (.bool true) ∧ Below W.heap.size W w'
def CSI2x0 (Q : List Ent) : Prop := ∀ aq cq ar cr W, SpaceAt W aq Q → SpaceAt W ar Q → Calls Tryz.prog 23 #[.slice aq Q.length cq, .int .i64 0, .int .i64 0, .slice ar Q.length cr] W fun e w' => e = .returned (.bool true) ∧ Below W.heap.size W w'
def CKx1 (a : Option Addr) (c : Nat) (s : List Ent) (now : Int) (p : ByteArray) (L : List ByteArray) : Prop := ∀ W, SpaceAt W a s → Calls Tryz.prog 9 #[.slice a s.length c, .int .i64 now, .string p] W fun e w' => (∃ ak ck, e = .returned (.tuple #[.slice ak L.length ck, .int .i64 0]) ∧ TextsAt w' ak L) ∧ Below W.heap.size W w'
def CCGx1 (p : ByteArray) : Prop := ∀ W, Calls Tryz.prog 14 #[.string p] W fun e w' => e = .returned (.int .i64 0) ∧ Below W.heap.size W w'
def CKOx0 (a : Option Addr) (c : Nat) (s : List Ent) (now : Int) (p : ByteArray) (L : List ByteArray) : Prop := ∀ W, SpaceAt W a s → Calls Tryz.prog 17 #[.slice a s.length c, .int .i64 now, .string p] W fun e w' => (∃ al cl, e = .returned (.slice al L.length cl) ∧ TextsAt w' al L) ∧ Below W.heap.size W w'
def CTTx1 (L : List ByteArray) : Prop := ∀ ak ck al cl W, TextsAt W ak L → TextsAt W al L → Calls Tryz.prog 24 #[.slice ak L.length ck, .slice al L.length cl] W fun e w' => e = .returned (.bool true) ∧ Below W.heap.size W w'
def CUx1 (a : Option Addr) (c : Nat) (s : List Ent) (now : Int) (key : ByteArray) : Prop := ∀ W, SpaceAt W a s → Calls Tryz.prog 8 #[.slice a s.length c, .int .i64 now, .string key] W fun e w' => e = .returned (.tuple #[.int .i64 0, .int .i64 5]) ∧ Below W.heap.size W w'
def CNx1 (x : Itm) : Prop := ∀ e1 f1 e2 f2 e3 f3 W, Calls Tryz.prog 12 #[.agg #[.int .i64 x.k, .string x.t, .slice e1 x.l.length f1, .slice e2 x.p.length f2, .slice e3 x.s.length f3]] W fun e w' => e = .returned (.bool false) ∧ Below W.heap.size W w'
def CCIx0 (x : Itm) (p1 : Option Addr) (q1 : Nat) (p2 : Option Addr) (q2 : Nat) (p3 : Option Addr) (q3 : Nat) : Prop := ∀ W, ItemIs W (.agg #[.int .i64 x.k, .string x.t, .slice p1 x.l.length q1, .slice p2 x.p.length q2, .slice p3 x.s.length q3]) x → Calls Tryz.prog 13 #[.agg #[.int .i64 x.k, .string x.t, .slice p1 x.l.length q1, .slice p2 x.p.length q2, .slice p3 x.s.length q3]] W fun e w' => e = .returned (.int .i64 0) ∧ Below W.heap.size W w'
def CPx1 (a : Option Addr) (c : Nat) (s : List Ent) (now : Int) (key : ByteArray) (x : Itm) (til : Int) (p1 : Option Addr) (q1 : Nat) (p2 : Option Addr) (q2 : Nat) (p3 : Option Addr) (q3 : Nat) : Prop := ∀ W, SpaceAt W a s → ItemIs W (.agg #[.int .i64 x.k, .string x.t, .slice p1 x.l.length q1, .slice p2 x.p.length q2, .slice p3 x.s.length q3]) x → Calls Tryz.prog 7 #[.slice a s.length c, .int .i64 now, .string key, .agg #[.int .i64 x.k, .string x.t, .slice p1 x.l.length q1, .slice p2 x.p.length q2, .slice p3 x.s.length q3], .int .i64 til] W fun e w' => (∃ ao co, e = .returned (.tuple #[.slice ao 0 co, .int .i64 3])) ∧ Below W.heap.size W w'
def CSI1x1  : Prop := ∀ (ao : Option Addr) (co : Nat) (W : World), Calls Tryz.prog 23 #[.slice ao 0 co, .int .i64 3, .int .i64 3, .slice none 0 0] W fun e w' => e = .returned (.bool true) ∧ Below W.heap.size W w'
def CPx2 (a : Option Addr) (c : Nat) (s : List Ent) (now : Int) (key : ByteArray) (x : Itm) (til : Int) (p1 : Option Addr) (q1 : Nat) (p2 : Option Addr) (q2 : Nat) (p3 : Option Addr) (q3 : Nat) (EI : Int) : Prop := ∀ W, SpaceAt W a s → ItemIs W (.agg #[.int .i64 x.k, .string x.t, .slice p1 x.l.length q1, .slice p2 x.p.length q2, .slice p3 x.s.length q3]) x → Calls Tryz.prog 7 #[.slice a s.length c, .int .i64 now, .string key, .agg #[.int .i64 x.k, .string x.t, .slice p1 x.l.length q1, .slice p2 x.p.length q2, .slice p3 x.s.length q3], .int .i64 til] W fun e w' => (∃ ao co, e = .returned (.tuple #[.slice ao 0 co, .int .i64 EI])) ∧ Below W.heap.size W w'
def CCIx1 (x : Itm) (p1 : Option Addr) (q1 : Nat) (p2 : Option Addr) (q2 : Nat) (p3 : Option Addr) (q3 : Nat) (EI : Int) : Prop := ∀ W, ItemIs W (.agg #[.int .i64 x.k, .string x.t, .slice p1 x.l.length q1, .slice p2 x.p.length q2, .slice p3 x.s.length q3]) x → Calls Tryz.prog 13 #[.agg #[.int .i64 x.k, .string x.t, .slice p1 x.l.length q1, .slice p2 x.p.length q2, .slice p3 x.s.length q3]] W fun e w' => e = .returned (.int .i64 EI) ∧ Below W.heap.size W w'
def CSI1x2 (EI : Int) : Prop := ∀ (ao : Option Addr) (co : Nat) (W : World), Calls Tryz.prog 23 #[.slice ao 0 co, .int .i64 EI, .int .i64 EI, .slice none 0 0] W fun e w' => e = .returned (.bool true) ∧ Below W.heap.size W w'
def CGx1 (a : Option Addr) (c : Nat) (s : List Ent) (now : Int) (key : ByteArray) (o : Itm) (EV : Int) : Prop := ∀ W, SpaceAt W a s → Calls Tryz.prog 6 #[.slice a s.length c, .int .i64 now, .string key] W fun e w' => (∃ b1 e1 b2 e2 b3 e3, e = .returned (.tuple #[.agg #[.int .i64 o.k, .string o.t, .slice b1 o.l.length e1, .slice b2 o.p.length e2, .slice b3 o.s.length e3], .int .i64 EV]) ∧ ItemIs w' (.agg #[.int .i64 o.k, .string o.t, .slice b1 o.l.length e1, .slice b2 o.p.length e2, .slice b3 o.s.length e3]) o) ∧ Below W.heap.size W w'
def CPx3 (a : Option Addr) (c : Nat) (s : List Ent) (now : Int) (key : ByteArray) (x : Itm) (til : Int) (p1 : Option Addr) (q1 : Nat) (p2 : Option Addr) (q2 : Nat) (p3 : Option Addr) (q3 : Nat) (EV : Int) : Prop := ∀ W, SpaceAt W a s → ItemIs W (.agg #[.int .i64 x.k, .string x.t, .slice p1 x.l.length q1, .slice p2 x.p.length q2, .slice p3 x.s.length q3]) x → Calls Tryz.prog 7 #[.slice a s.length c, .int .i64 now, .string key, .agg #[.int .i64 x.k, .string x.t, .slice p1 x.l.length q1, .slice p2 x.p.length q2, .slice p3 x.s.length q3], .int .i64 til] W fun e w' => (∃ ao co, e = .returned (.tuple #[.slice ao 0 co, .int .i64 EV])) ∧ Below W.heap.size W w'
def CUx2 (a : Option Addr) (c : Nat) (s : List Ent) (now : Int) (key : ByteArray) (EV : Int) : Prop := ∀ W, SpaceAt W a s → Calls Tryz.prog 8 #[.slice a s.length c, .int .i64 now, .string key] W fun e w' => e = .returned (.tuple #[.int .i64 0, .int .i64 EV]) ∧ Below W.heap.size W w'
def CKx2 (a : Option Addr) (c : Nat) (s : List Ent) (now : Int) (p : ByteArray) (EV : Int) : Prop := ∀ W, SpaceAt W a s → Calls Tryz.prog 9 #[.slice a s.length c, .int .i64 now, .string p] W fun e w' => (∃ ak ck, e = .returned (.tuple #[.slice ak 0 ck, .int .i64 EV])) ∧ Below W.heap.size W w'
def CSx1 (a : Option Addr) (c : Nat) (s : List Ent) (now : Int) (EV : Int) : Prop := ∀ W, SpaceAt W a s → Calls Tryz.prog 10 #[.slice a s.length c, .int .i64 now] W fun e w' => (∃ aq cq, e = .returned (.tuple #[.slice aq 0 cq, .int .i64 0, .int .i64 EV])) ∧ Below W.heap.size W w'
def CCAx1 (a : Option Addr) (c : Nat) (s : List Ent) (now : Int) (key : ByteArray) (EV : Int) : Prop := ∀ W, SpaceAt W a s → Calls Tryz.prog 11 #[.slice a s.length c, .int .i64 now, .string key] W fun e w' => e = .returned (.int .i64 EV) ∧ Below W.heap.size W w'
def CCBx1 (a : Option Addr) (c : Nat) (s : List Ent) (now : Int) (EV : Int) : Prop := ∀ W, SpaceAt W a s → Calls Tryz.prog 11 #[.slice a s.length c, .int .i64 now, .string ⟨#[]⟩] W fun e w' => e = .returned (.int .i64 EV) ∧ Below W.heap.size W w'
def COZx0 (o : Itm) : Prop := ∀ v W, ItemIs W v o → Calls Tryz.prog 22 #[v, .agg #[.int .i64 0, .string ⟨#[]⟩, .slice none 0 0, .slice none 0 0, .slice none 0 0]] W fun e w' => e = .returned (.bool true) ∧ Below W.heap.size W w'
def CSI1x3 (EV : Int) : Prop := ∀ (ao : Option Addr) (co : Nat) (W : World), Calls Tryz.prog 23 #[.slice ao 0 co, .int .i64 EV, .int .i64 EV, .slice none 0 0] W fun e w' => e = .returned (.bool true) ∧ Below W.heap.size W w'
def CSI2x1 (EV : Int) : Prop := ∀ (aq : Option Addr) (cq : Nat) (W : World), Calls Tryz.prog 23 #[.slice aq 0 cq, .int .i64 EV, .int .i64 EV, .slice none 0 0] W fun e w' => e = .returned (.bool true) ∧ Below W.heap.size W w'
end Go.Proofs.YtcidoodaiimhfaaGreat

/- What the readings of items give. -/
namespace Go.Proofs.YtcidoodaiimhfaaGreat
open Go.RowKit Go.ChangeShapes Go.WideShapes Go.ChangeAt Go.Deep

theorem pick_list {α : Type} {len : Nat} {p : Nat → α → Prop} (h : ∀ i, i < len → ∃ x, p i x) : ∃ L : List α, L.length = len ∧ ∀ i (hi : i < L.length), p i L[i] := by
  induction len with
  | zero => exact ⟨[], rfl, fun i hi => by simp at hi⟩
  | succ n ih =>
    obtain ⟨L, hl, hp⟩ := ih (fun i hi => h i (by omega))
    obtain ⟨x, hx⟩ := h n (by omega)
    refine ⟨L ++ [x], by simp [hl], fun i hi => ?_⟩
    by_cases hlt : i < L.length
    · rw [List.getElem_append_left hlt]; exact hp i hlt
    · have : i = L.length := by simp at hi; omega
      subst this
      simp only [List.getElem_append_right (Nat.le_refl _), Nat.sub_self, List.getElem_cons_zero]
      rw [hl]
      exact hx
theorem spot_none {w : World} {a : Addr} {v : Value} (h : w.cell? a = some v) : a.spot = none := by
  cases hs : a.spot with
  | none => rfl
  | some x =>
    exfalso
    unfold World.cell? at h
    split at h
    · simp [hs] at h
    · simp at h
theorem plain_addr {a : Addr} (h : a.spot = none) : ∃ b off, a = ⟨b, off, none⟩ := by
  cases a with
  | mk b o s => simp only at h; subst h; exact ⟨b, o, rfl⟩
theorem plus_at (b off i : Nat) : (⟨b, off, none⟩ : Addr).add i = ⟨b, off + i, none⟩ := by
  unfold Addr.add
  split
  · rename_i h; subst h; rfl
  · rfl
theorem one_list {cs : List Value} (h : cs.length = 1) : ∃ c0, cs = [c0] := by
  match cs, h with
  | [c0], _ => exact ⟨c0, rfl⟩
theorem two_list {cs : List Value} (h : cs.length = 2) : ∃ c0 c1, cs = [c0, c1] := by
  match cs, h with
  | [c0, c1], _ => exact ⟨c0, c1, rfl⟩
theorem five_list {cs : List Value} (h : cs.length = 5) : ∃ c0 c1 c2 c3 c4, cs = [c0, c1, c2, c3, c4] := by
  match cs, h with
  | [c0, c1, c2, c3, c4], _ => exact ⟨c0, c1, c2, c3, c4, rfl⟩

theorem cellsItem : Tryz.prog.cellsOf 28 = 5 := by kernel_rfl
theorem cellsPair : Tryz.prog.cellsOf 87 = 2 := by kernel_rfl
theorem cellsScore : Tryz.prog.cellsOf 89 = 2 := by kernel_rfl
theorem cellsI : Tryz.prog.cellsOf 3 = 1 := by kernel_rfl
theorem cellsS : Tryz.prog.cellsOf 9 = 1 := by kernel_rfl
theorem cellsL1 : Tryz.prog.cellsOf 24 = 1 := by kernel_rfl
theorem cellsL2 : Tryz.prog.cellsOf 25 = 1 := by kernel_rfl
theorem cellsL3 : Tryz.prog.cellsOf 26 = 1 := by kernel_rfl
theorem bytesS : Tryz.prog.bytesOf 9 = 16 := by kernel_rfl
theorem bytesP : Tryz.prog.bytesOf 87 = 32 := by kernel_rfl
theorem bytesSc : Tryz.prog.bytesOf 89 = 24 := by kernel_rfl

section
variable {H : Type} {enc : TypeId × Value → H} {W : World} {held : Bool}
/-- how many there are, of the reading -/
def datLen : DataW H → Nat
  | .slice es _ => es.length
  | _ => 0
theorem texts_of_trod {n : Nat} {lv : Value} {x : DataW H × List MemPlace} (h : DataW.trod enc Tryz.prog W 0 (fun _ => true) held n 24 [lv] = some x) :
    ∃ a cap ts, lv = .slice a (List.length ts) cap ∧ TextsAt W a ts ∧ (∀ t ∈ ts, t.size ≤ maxLen) ∧ (ts.length = 0 ∨ ∃ es sp, x.1 = .slice es sp ∧ es.length = ts.length) := by
  rcases open_slice Tryz.underlying24 h with ⟨hcs, _⟩ | ⟨a, len, cap, m, n', D, Pl, hcs, _, hl, hm, hmm, hx, hcell⟩
  · simp at hcs
    exact ⟨none, 0, [], hcs, .inl rfl, by simp, .inl rfl⟩
  · simp at hcs
    have hmc : m = cap := by simpa using hmm
    subst hmc
    rw [cellsS] at hcell
    obtain ⟨rs, hrl, hrs⟩ := pick_list (len := len) (p := fun i (r : ByteArray) => W.cell? ((a.add (i * 1)).add 0) = some (.string r) ∧ r.size ≤ maxLen) (fun i hi => by
      obtain ⟨cs', hc, hd⟩ := hcell i (by omega)
      obtain ⟨hcl, _, hg⟩ := World.cells?_some hc
      obtain ⟨t, e1, _, hts⟩ := DataW.trod_string Tryz.underlying9 hd
      subst e1
      exact ⟨t, hg 0 (by omega), hts⟩)
    subst hrl
    refine ⟨some a, m, rs, hcs, ?_, ?_, .inr ⟨_, _, by rw [hx], by simp⟩⟩
    · by_cases h0 : rs = []
      · exact .inl h0
      · have hpos : 0 < rs.length := List.length_pos_iff.2 h0
        obtain ⟨b, off, rfl⟩ := plain_addr (by have e := spot_none (hrs 0 hpos).1; simpa [Addr.add] using e : a.spot = none)
        refine .inr ⟨b, off, rfl, fun i hi => ?_⟩
        have := (hrs i hi).1
        rw [plus_at, plus_at, Nat.mul_one] at this
        exact this
    · intro t ht
      obtain ⟨i, hi, rfl⟩ := List.getElem_of_mem ht
      exact (hrs i hi).2
theorem pair_parts {n : Nat} {cs : List Value} {x : DataW H × List MemPlace} (h : DataW.trod enc Tryz.prog W 0 (fun _ => true) held n 87 cs = some x) :
    ∃ t1 t2 : ByteArray, cs = [.string t1, .string t2] ∧ t1.size ≤ maxLen ∧ t2.size ≤ maxLen := by
  obtain ⟨xs, n', rfl, hx, hl, hxl, hall⟩ := DataW.trod_struct Tryz.underlying87 h
  rw [cellsPair] at hl
  obtain ⟨c0, c1, rfl⟩ := two_list hl
  have hl2 : xs.length = 2 := hxl
  have h0 : DataW.trod enc Tryz.prog W 0 (fun _ => true) held n' 9 (([c0, c1].drop 0).take (Tryz.prog.cellsOf 9)) = xs[0]? := hall 0 _ rfl
  have h1 : DataW.trod enc Tryz.prog W 0 (fun _ => true) held n' 9 (([c0, c1].drop 1).take (Tryz.prog.cellsOf 9)) = xs[1]? := hall 1 _ rfl
  clear hall
  rw [cellsS, List.getElem?_eq_getElem (by omega)] at h0 h1
  obtain ⟨t0, e0, _, s0⟩ := DataW.trod_string Tryz.underlying9 h0
  obtain ⟨t1, e1, _, s1⟩ := DataW.trod_string Tryz.underlying9 h1
  simp at e0 e1
  subst e0 e1
  exact ⟨t0, t1, rfl, s0, s1⟩
theorem score_parts {n : Nat} {cs : List Value} {x : DataW H × List MemPlace} (h : DataW.trod enc Tryz.prog W 0 (fun _ => true) held n 89 cs = some x) :
    ∃ (t1 : Int) (t2 : ByteArray), cs = [.int .i64 t1, .string t2] ∧ t2.size ≤ maxLen ∧ -9223372036854775808 ≤ t1 ∧ t1 ≤ 9223372036854775807 := by
  obtain ⟨xs, n', rfl, hx, hl, hxl, hall⟩ := DataW.trod_struct Tryz.underlying89 h
  rw [cellsScore] at hl
  obtain ⟨c0, c1, rfl⟩ := two_list hl
  have hl2 : xs.length = 2 := hxl
  have h0 : DataW.trod enc Tryz.prog W 0 (fun _ => true) held n' 3 (([c0, c1].drop 0).take (Tryz.prog.cellsOf 3)) = xs[0]? := hall 0 _ rfl
  have h1 : DataW.trod enc Tryz.prog W 0 (fun _ => true) held n' 9 (([c0, c1].drop 1).take (Tryz.prog.cellsOf 9)) = xs[1]? := hall 1 _ rfl
  clear hall
  rw [cellsI, List.getElem?_eq_getElem (by omega)] at h0
  rw [cellsS, List.getElem?_eq_getElem (by omega)] at h1
  obtain ⟨t0, e0, _, s0⟩ := DataW.trod_int Tryz.underlying3 h0
  obtain ⟨t1, e1, _, s1⟩ := DataW.trod_string Tryz.underlying9 h1
  simp at e0 e1
  subst e0 e1
  exact ⟨t0, t1, rfl, s1, bounds_i64 s0⟩
theorem pairs_of_trod {n : Nat} {lv : Value} {x : DataW H × List MemPlace} (h : DataW.trod enc Tryz.prog W 0 (fun _ => true) held n 25 [lv] = some x) :
    ∃ a cap ts, lv = .slice a (List.length ts) cap ∧ PairsAt W a ts ∧ (∀ t ∈ ts, t.1.size ≤ maxLen ∧ t.2.size ≤ maxLen) ∧ (ts.length = 0 ∨ ∃ es sp, x.1 = .slice es sp ∧ es.length = ts.length) := by
  rcases open_slice Tryz.underlying25 h with ⟨hcs, _⟩ | ⟨a, len, cap, m, n', D, Pl, hcs, _, hl, hm, hmm, hx, hcell⟩
  · simp at hcs
    exact ⟨none, 0, [], hcs, .inl rfl, by simp, .inl rfl⟩
  · simp at hcs
    have hmc : m = cap := by simpa using hmm
    subst hmc
    rw [cellsPair] at hcell
    obtain ⟨rs, hrl, hrs⟩ := pick_list (len := len) (p := fun i (t : ByteArray × ByteArray) => W.cell? ((a.add (i * 2)).add 0) = some (.string t.1) ∧ W.cell? ((a.add (i * 2)).add 1) = some (.string t.2) ∧ t.1.size ≤ maxLen ∧ t.2.size ≤ maxLen) (fun i hi => by
      obtain ⟨cs', hc, hd⟩ := hcell i (by omega)
      obtain ⟨hcl, _, hg⟩ := World.cells?_some hc
      obtain ⟨t1, t2, e1, hts⟩ := pair_parts hd
      subst e1
      exact ⟨(t1, t2), hg 0 (by omega), hg 1 (by omega), hts⟩)
    subst hrl
    refine ⟨some a, m, rs, hcs, ?_, ?_, .inr ⟨_, _, by rw [hx], by simp⟩⟩
    · by_cases h0 : rs = []
      · exact .inl h0
      · have hpos : 0 < rs.length := List.length_pos_iff.2 h0
        obtain ⟨b, off, rfl⟩ := plain_addr (by have e := spot_none (hrs 0 hpos).1; simpa [Addr.add] using e : a.spot = none)
        refine .inr ⟨b, off, rfl, fun i hi => ?_⟩
        have g1 := (hrs i hi).1
        have g2 := (hrs i hi).2.1
        rw [plus_at, plus_at] at g1 g2
        exact ⟨g1, g2⟩
    · intro t ht
      obtain ⟨i, hi, rfl⟩ := List.getElem_of_mem ht
      exact (hrs i hi).2.2
theorem scores_of_trod {n : Nat} {lv : Value} {x : DataW H × List MemPlace} (h : DataW.trod enc Tryz.prog W 0 (fun _ => true) held n 26 [lv] = some x) :
    ∃ a cap ts, lv = .slice a (List.length ts) cap ∧ ScoresAt W a ts ∧ (∀ t ∈ ts, t.2.size ≤ maxLen ∧ -9223372036854775808 ≤ t.1 ∧ t.1 ≤ 9223372036854775807) ∧ (ts.length = 0 ∨ ∃ es sp, x.1 = .slice es sp ∧ es.length = ts.length) := by
  rcases open_slice Tryz.underlying26 h with ⟨hcs, _⟩ | ⟨a, len, cap, m, n', D, Pl, hcs, _, hl, hm, hmm, hx, hcell⟩
  · simp at hcs
    exact ⟨none, 0, [], hcs, .inl rfl, by simp, .inl rfl⟩
  · simp at hcs
    have hmc : m = cap := by simpa using hmm
    subst hmc
    rw [cellsScore] at hcell
    obtain ⟨rs, hrl, hrs⟩ := pick_list (len := len) (p := fun i (t : Int × ByteArray) => W.cell? ((a.add (i * 2)).add 0) = some (.int .i64 t.1) ∧ W.cell? ((a.add (i * 2)).add 1) = some (.string t.2) ∧ t.2.size ≤ maxLen ∧ -9223372036854775808 ≤ t.1 ∧ t.1 ≤ 9223372036854775807) (fun i hi => by
      obtain ⟨cs', hc, hd⟩ := hcell i (by omega)
      obtain ⟨hcl, _, hg⟩ := World.cells?_some hc
      obtain ⟨t1, t2, e1, hts⟩ := score_parts hd
      subst e1
      exact ⟨(t1, t2), hg 0 (by omega), hg 1 (by omega), hts⟩)
    subst hrl
    refine ⟨some a, m, rs, hcs, ?_, ?_, .inr ⟨_, _, by rw [hx], by simp⟩⟩
    · by_cases h0 : rs = []
      · exact .inl h0
      · have hpos : 0 < rs.length := List.length_pos_iff.2 h0
        obtain ⟨b, off, rfl⟩ := plain_addr (by have e := spot_none (hrs 0 hpos).1; simpa [Addr.add] using e : a.spot = none)
        refine .inr ⟨b, off, rfl, fun i hi => ?_⟩
        have g1 := (hrs i hi).1
        have g2 := (hrs i hi).2.1
        rw [plus_at, plus_at] at g1 g2
        exact ⟨g1, g2⟩
    · intro t ht
      obtain ⟨i, hi, rfl⟩ := List.getElem_of_mem ht
      exact (hrs i hi).2.2

theorem weights_agg {P : Program} {t : TypeId} {fs : Array Field} {parts : List (DataW H)} (hu : P.underlying t = some (.struct fs)) (h : ((DataW.agg parts).weights P t).all (· ≤ reachBytes) = true) : (DataW.weightsEach P (fs.toList.map (·.type)) parts).all (· ≤ reachBytes) = true := by
  unfold DataW.weights at h
  rw [hu] at h
  exact h
theorem weights_at {P : Program} {ts : List TypeId} {ds : List (DataW H)} (h : (DataW.weightsEach P ts ds).all (· ≤ reachBytes) = true) {j : Nat} {t : TypeId} {d : DataW H} (ht : ts[j]? = some t) (hd : ds[j]? = some d) : (d.weights P t).all (· ≤ reachBytes) = true := by
  rw [List.all_eq_true] at h ⊢
  intro n hn
  exact h n (DataW.weights_mem_each ht hd n hn)

set_option maxRecDepth 100000 in
theorem item_cells {n : Nat} {cs : List Value} {x : DataW H × List MemPlace} (h : DataW.trod enc Tryz.prog W 0 (fun _ => true) held n 28 cs = some x) (hw : (x.1.weights Tryz.prog 28).all (· ≤ reachBytes) = true) :
    ∃ y : Itm, ItemIs W (.agg cs.toArray) y := by
  obtain ⟨xs, n', rfl, hx, hl, hxl, hall⟩ := DataW.trod_struct Tryz.underlying28 h
  rw [cellsItem] at hl
  obtain ⟨c0, c1, c2, c3, c4, rfl⟩ := five_list hl
  have hl5 : xs.length = 5 := hxl
  have h0 : DataW.trod enc Tryz.prog W 0 (fun _ => true) held n' 3 (([c0, c1, c2, c3, c4].drop 0).take (Tryz.prog.cellsOf 3)) = xs[0]? := hall 0 _ rfl
  have h1 : DataW.trod enc Tryz.prog W 0 (fun _ => true) held n' 9 (([c0, c1, c2, c3, c4].drop 1).take (Tryz.prog.cellsOf 9)) = xs[1]? := hall 1 _ rfl
  have h2 : DataW.trod enc Tryz.prog W 0 (fun _ => true) held n' 24 (([c0, c1, c2, c3, c4].drop 2).take (Tryz.prog.cellsOf 24)) = xs[2]? := hall 2 _ rfl
  have h3 : DataW.trod enc Tryz.prog W 0 (fun _ => true) held n' 25 (([c0, c1, c2, c3, c4].drop 3).take (Tryz.prog.cellsOf 25)) = xs[3]? := hall 3 _ rfl
  have h4 : DataW.trod enc Tryz.prog W 0 (fun _ => true) held n' 26 (([c0, c1, c2, c3, c4].drop 4).take (Tryz.prog.cellsOf 26)) = xs[4]? := hall 4 _ rfl
  clear hall
  rw [cellsI, List.getElem?_eq_getElem (by omega)] at h0
  rw [cellsS, List.getElem?_eq_getElem (by omega)] at h1
  rw [cellsL1, List.getElem?_eq_getElem (by omega)] at h2
  rw [cellsL2, List.getElem?_eq_getElem (by omega)] at h3
  rw [cellsL3, List.getElem?_eq_getElem (by omega)] at h4
  obtain ⟨k, e0, _, _⟩ := DataW.trod_int Tryz.underlying3 h0
  obtain ⟨t, e1, _, hts⟩ := DataW.trod_string Tryz.underlying9 h1
  simp at e0 e1
  subst e0 e1
  obtain ⟨a1, p1, l1, e2, i2, s2, w2⟩ := texts_of_trod h2
  obtain ⟨a2, p2, l2, e3, i3, s3, w3⟩ := pairs_of_trod h3
  obtain ⟨a3, p3, l3, e4, i4, s4, w4⟩ := scores_of_trod h4
  subst e2 e3 e4
  rw [hx] at hw
  have hws := weights_agg Tryz.underlying28 hw
  have hrb := reachBytes_lt
  have b1 : l1.length ≤ 281474976710656 := by
    rcases w2 with w2 | ⟨es, sp, we, wl⟩
    · omega
    · have := sized_slice hws (elems := es) (spare := sp) (j := 2) (t := 24) rfl (by simp [hl5, we]) Tryz.underlying24
      rw [bytesS] at this
      omega
  have b2 : l2.length ≤ 281474976710656 := by
    rcases w3 with w3 | ⟨es, sp, we, wl⟩
    · omega
    · have := sized_slice hws (elems := es) (spare := sp) (j := 3) (t := 25) rfl (by simp [hl5, we]) Tryz.underlying25
      rw [bytesP] at this
      omega
  have b3 : l3.length ≤ 281474976710656 := by
    rcases w4 with w4 | ⟨es, sp, we, wl⟩
    · omega
    · have := sized_slice hws (elems := es) (spare := sp) (j := 4) (t := 26) rfl (by simp [hl5, we]) Tryz.underlying26
      rw [bytesSc] at this
      omega
  exact ⟨⟨k, t, l1, l2, l3⟩, ⟨⟨a1, p1, a2, p2, a3, p3, rfl, i2, i3, i4⟩, hts, s2, s3, fun y hy => (s4 y hy).1, b1, b2, b3⟩⟩
set_option maxRecDepth 100000 in
theorem item_of_trod {base : Nat} {v : Value} {d : DataW H} {pl : List MemPlace} (hv : Value.okWide Tryz.prog W .any base 28 v) (h : DataW.Trod enc Tryz.prog W 0 (fun _ => true) held 28 v d pl) (hw : (d.weights Tryz.prog 28).all (· ≤ reachBytes) = true) :
    ∃ y : Itm, ItemIs W v y := by
  obtain ⟨cs, rfl, _⟩ := okWide_struct Tryz.underlying28 hv
  obtain ⟨fuel, hf⟩ := h
  obtain ⟨y, hy⟩ := item_cells hf hw
  have hy2 : ItemIs W (.agg (Value.agg cs).cells) y := by simpa using hy
  exact ⟨y, hy2⟩
set_option maxRecDepth 100000 in
theorem list_of_trod {base : Nat} {v : Value} {d : DataW H} {pl : List MemPlace} (hv : Value.okWide Tryz.prog W .any base 24 v) (h : DataW.Trod enc Tryz.prog W 0 (fun _ => true) held 24 v d pl) (hw : (d.weights Tryz.prog 24).all (· ≤ reachBytes) = true) :
    ∃ a c l, v = .slice a (List.length l) c ∧ TextsAt W a l ∧ (∀ t ∈ l, t.size ≤ maxLen) ∧ l.length ≤ 8796093022208 := by
  obtain ⟨a0, n0, c0, rfl⟩ := okWide_slice Tryz.underlying24 hv
  obtain ⟨fuel, hf⟩ := h
  obtain ⟨a, c, l, e, i, z, wl⟩ := texts_of_trod (lv := .slice a0 n0 c0) hf
  refine ⟨a, c, l, e, i, z, ?_⟩
  rcases wl with wl | ⟨es, sp, we, hl⟩
  · omega
  · have hws : (DataW.weightsEach Tryz.prog [24] [d]).all (· ≤ reachBytes) = true := by
      rw [DataW.weightsEach, DataW.weightsEach, List.append_nil]
      exact hw
      all_goals simp
    have hrb := reachBytes_lt
    have := sized_slice hws (elems := es) (spare := sp) (j := 0) (t := 24) rfl (by rw [← we]; rfl) Tryz.underlying24
    rw [bytesS] at this
    omega
end
end Go.Proofs.YtcidoodaiimhfaaGreat

/- What the reading of a space gives. -/
namespace Go.Proofs.YtcidoodaiimhfaaGreat
open Go.RowKit Go.ChangeShapes Go.WideShapes Go.ChangeAt Go.Deep

theorem cellsEnt : Tryz.prog.cellsOf 45 = 7 := by kernel_rfl
theorem bytesEnt : Tryz.prog.bytesOf 45 = 120 := by kernel_rfl
theorem seven_list {cs : List Value} (h : cs.length = 7) : ∃ c0 c1 c2 c3 c4 c5 c6, cs = [c0, c1, c2, c3, c4, c5, c6] := by
  match cs, h with
  | [c0, c1, c2, c3, c4, c5, c6], _ => exact ⟨c0, c1, c2, c3, c4, c5, c6, rfl⟩
section
variable {H : Type} {enc : TypeId × Value → H} {W : World} {held : Bool}
theorem weights_mem_all {P : Program} {e : TypeId} : ∀ {l : List (DataW H)} {d : DataW H}, d ∈ l → ∀ n ∈ d.weights P e, n ∈ DataW.weightsAll P e l
  | [], _, h, _, _ => by cases h
  | x :: r, d, h, n, hn => by
    unfold DataW.weightsAll
    rcases List.mem_cons.1 h with rfl | h
    · exact List.mem_append.2 (.inl hn)
    · exact List.mem_append.2 (.inr (weights_mem_all h n hn))
theorem weights_slice {P : Program} {t e : TypeId} {es sp : List (DataW H)} (hu : P.underlying t = some (.slice e)) (h : ((DataW.slice es sp).weights P t).all (· ≤ reachBytes) = true) :
    (es.length + sp.length) * P.bytesOf e ≤ reachBytes ∧ ∀ d ∈ es, (d.weights P e).all (· ≤ reachBytes) = true := by
  unfold DataW.weights at h
  rw [hu] at h
  simp only [List.all_cons, List.all_append, Bool.and_eq_true, decide_eq_true_eq] at h
  refine ⟨h.1, fun d hd => ?_⟩
  have h2 := h.2.1
  rw [List.all_eq_true] at h2 ⊢
  exact fun n hn => h2 n (weights_mem_all hd n hn)
set_option maxRecDepth 100000 in
theorem entry_cells {n : Nat} {cs : List Value} {x : DataW H × List MemPlace} (h : DataW.trod enc Tryz.prog W 0 (fun _ => true) held n 45 cs = some x) (hw : (x.1.weights Tryz.prog 45).all (· ≤ reachBytes) = true) :
    ∃ (y : Ent) (a1 : Option Addr) (p1 : Nat) (a2 : Option Addr) (p2 : Nat) (a3 : Option Addr) (p3 : Nat), cs = [.string y.key, .int .i64 y.item.k, .string y.item.t, .slice a1 y.item.l.length p1, .slice a2 y.item.p.length p2, .slice a3 y.item.s.length p3, .int .i64 y.til] ∧
      ItemIs W (.agg #[.int .i64 y.item.k, .string y.item.t, .slice a1 y.item.l.length p1, .slice a2 y.item.p.length p2, .slice a3 y.item.s.length p3]) y.item := by
  obtain ⟨xs, n', rfl, hx, hl, hxl, hall⟩ := DataW.trod_struct Tryz.underlying45 h
  rw [cellsEnt] at hl
  obtain ⟨c0, c1, c2, c3, c4, c5, c6, rfl⟩ := seven_list hl
  have hl3 : xs.length = 3 := hxl
  have h0 : DataW.trod enc Tryz.prog W 0 (fun _ => true) held n' 9 (([c0, c1, c2, c3, c4, c5, c6].drop 0).take (Tryz.prog.cellsOf 9)) = xs[0]? := hall 0 _ rfl
  have h1 : DataW.trod enc Tryz.prog W 0 (fun _ => true) held n' 28 (([c0, c1, c2, c3, c4, c5, c6].drop 1).take (Tryz.prog.cellsOf 28)) = xs[1]? := hall 1 _ rfl
  have h2 : DataW.trod enc Tryz.prog W 0 (fun _ => true) held n' 3 (([c0, c1, c2, c3, c4, c5, c6].drop 6).take (Tryz.prog.cellsOf 3)) = xs[2]? := hall 2 _ rfl
  clear hall
  rw [cellsS, List.getElem?_eq_getElem (by omega)] at h0
  rw [cellsItem, List.getElem?_eq_getElem (by omega)] at h1
  rw [cellsI, List.getElem?_eq_getElem (by omega)] at h2
  obtain ⟨t, e0, _, hts⟩ := DataW.trod_string Tryz.underlying9 h0
  obtain ⟨k, e2, _, _⟩ := DataW.trod_int Tryz.underlying3 h2
  simp at e0 e2
  subst e0 e2
  rw [hx] at hw
  have hws := weights_agg Tryz.underlying45 hw
  have hwi := weights_at hws (j := 1) (t := 28) (d := xs[1].1) rfl (by simp [hl3])
  obtain ⟨y, hy⟩ := item_cells h1 hwi
  obtain ⟨a1, p1, a2, p2, a3, p3, e, -, -, -⟩ := hy.ex
  have e' : [c1, c2, c3, c4, c5] = [.int .i64 y.k, .string y.t, .slice a1 y.l.length p1, .slice a2 y.p.length p2, .slice a3 y.s.length p3] := by
    injection e with e
    have := congrArg Array.toList e
    simpa using this
  injection e' with e1 e'
  injection e' with e2 e'
  injection e' with e3 e'
  injection e' with e4 e'
  injection e' with e5 e'
  subst e1 e2 e3 e4 e5
  exact ⟨⟨t, y, k⟩, a1, p1, a2, p2, a3, p3, rfl, by simpa using hy⟩
set_option maxRecDepth 100000 in
theorem space_of_trod {base : Nat} {v : Value} {d : DataW H} {pl : List MemPlace} (hv : Value.okWide Tryz.prog W .any base 23 v) (h : DataW.Trod enc Tryz.prog W 0 (fun _ => true) held 23 v d pl) (hw : (d.weights Tryz.prog 23).all (· ≤ reachBytes) = true) :
    ∃ a c s, v = .slice a (List.length s) c ∧ SpaceAt W a s ∧ s.length ≤ 281474976710656 := by
  obtain ⟨a0, n0, c0, rfl⟩ := okWide_slice Tryz.underlying23 hv
  obtain ⟨fuel, hf⟩ := h
  rcases open_slice Tryz.underlying23 hf with ⟨hcs, _⟩ | ⟨a, len, cap, m, n', D, Pl, hcs, _, hl, hm, hmm, hx, hcell⟩
  · have hcs2 : [Value.slice a0 n0 c0] = [.slice none 0 0] := hcs
    have hcs' : (Value.slice a0 n0 c0) = .slice none 0 0 := by injection hcs2
    exact ⟨none, 0, [], hcs', .inl rfl, by simp⟩
  · have hcs2 : [Value.slice a0 n0 c0] = [.slice (some a) len cap] := hcs
    have hcs' : (Value.slice a0 n0 c0) = .slice (some a) len cap := by injection hcs2
    have hmc : m = cap := by simpa using hmm
    subst hmc
    rw [cellsEnt] at hcell
    have hd : d = .slice ((List.range len).map D) ((List.range (m - len)).map fun j => D (len + j)) := congrArg Prod.fst hx
    rw [hd] at hw
    obtain ⟨hw1, hw2⟩ := weights_slice Tryz.underlying23 hw
    rw [bytesEnt] at hw1
    have hrb := reachBytes_lt
    simp only [List.length_map, List.length_range] at hw1
    obtain ⟨rs, hrl, hrs⟩ := pick_list (len := len) (p := fun i (y : Ent) => ∃ (a1 : Option Addr) (c1 : Nat) (a2 : Option Addr) (c2 : Nat) (a3 : Option Addr) (c3 : Nat), (W.cell? ((a.add (i * 7)).add 0) = some (.string y.key) ∧ W.cell? ((a.add (i * 7)).add 1) = some (.int .i64 y.item.k) ∧ W.cell? ((a.add (i * 7)).add 2) = some (.string y.item.t) ∧ W.cell? ((a.add (i * 7)).add 3) = some (.slice a1 y.item.l.length c1) ∧ W.cell? ((a.add (i * 7)).add 4) = some (.slice a2 y.item.p.length c2) ∧ W.cell? ((a.add (i * 7)).add 5) = some (.slice a3 y.item.s.length c3) ∧ W.cell? ((a.add (i * 7)).add 6) = some (.int .i64 y.til)) ∧
        ItemIs W (.agg #[.int .i64 y.item.k, .string y.item.t, .slice a1 y.item.l.length c1, .slice a2 y.item.p.length c2, .slice a3 y.item.s.length c3]) y.item) (fun i hi => by
      obtain ⟨cs', hc, hdd⟩ := hcell i (by omega)
      obtain ⟨hcl, _, hg⟩ := World.cells?_some hc
      obtain ⟨y, a1, p1, a2, p2, a3, p3, e1, hI⟩ := entry_cells hdd (hw2 _ (List.mem_map.2 ⟨i, List.mem_range.2 hi, rfl⟩))
      subst e1
      exact ⟨y, a1, p1, a2, p2, a3, p3, ⟨hg 0 (by omega), hg 1 (by omega), hg 2 (by omega), hg 3 (by omega), hg 4 (by omega), hg 5 (by omega), hg 6 (by omega)⟩, hI⟩)
    subst hrl
    refine ⟨some a, m, rs, hcs', ?_, by omega⟩
    by_cases h0 : rs = []
    · exact .inl h0
    · have hpos : 0 < rs.length := List.length_pos_iff.2 h0
      obtain ⟨q1, q2, q3, q4, q5, q6, ⟨z0, -, -, -, -, -, -⟩, -⟩ := hrs 0 hpos
      obtain ⟨b, off, rfl⟩ := plain_addr (by have e := spot_none z0; simpa [Addr.add] using e : a.spot = none)
      refine .inr ⟨b, off, rfl, fun i hi => ?_⟩
      obtain ⟨q1, q2, q3, q4, q5, q6, ⟨g0, g1, g2, g3, g4, g5, g6⟩, hI⟩ := hrs i hi
      rw [plus_at, plus_at] at g0 g1 g2 g3 g4 g5 g6
      exact ⟨q1, q2, q3, q4, q5, q6, ⟨g0, g1, g2, g3, g4, g5, g6⟩, hI⟩
end
end Go.Proofs.YtcidoodaiimhfaaGreat

