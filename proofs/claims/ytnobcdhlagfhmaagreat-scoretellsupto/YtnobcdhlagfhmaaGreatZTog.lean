/- WALK of hashes: together. -/
import Derived.Test.YtnobcdhlagfhmaaGreatZPl
import Derived.Test.YtnobcdhlagfhmaaGreatZSrt
import Derived.Handy
namespace Go.Proofs.YtnobcdhlagfhmaaGreat.Z
open Go.RowKit Go.Maps

/-- what the map holds: of each field the pair that was met last -/
structure Lasts (D : DataW Unit) (ms : List Sc) : Prop where
  at_ : ∀ f p, lastS ms f = some p → ∀ zd, D.atKey (.string f.data.toList) zd = datP p
  has_ : ∀ x : List UInt8, Maps.has D (.string x) = true ↔ ∃ p ∈ ms, p.2.data.toList = x
theorem Lasts.start : Lasts (.map []) [] := ⟨fun f p h => by simp [lastS] at h, fun x => by simp [Maps.has]⟩
theorem Lasts.step {D : DataW Unit} {ms : List Sc} (h : Lasts D ms) (hm : IsMap D) (p : Sc) : Lasts (D.put (.string p.2.data.toList) (datP p)) (ms ++ [p]) := by
  refine ⟨fun f q hq zd => ?_, fun x => ?_⟩
  · rw [lastS_snoc] at hq
    by_cases e : p.2 = f
    · subst e
      rw [if_pos rfl] at hq
      cases hq
      exact atKey_put_same hm (k := .string _) (by trivial) _ _
    · rw [if_neg e] at hq
      rw [atKey_put_other (by intro e2; injection e2 with e2; exact e (bytes_eq e2.symm)), h.at_ f q hq]
  · by_cases e : x = p.2.data.toList
    · subst e
      rw [has_put_same hm (k := .string _) (by trivial)]
      simp
    · rw [has_put_other (by intro e2; injection e2 with e2; exact e e2), h.has_]
      constructor
      · rintro ⟨q, hq, rfl⟩; exact ⟨q, by simp [hq], rfl⟩
      · rintro ⟨q, hq, rfl⟩
        rcases List.mem_append.1 hq with hq | hq
        · exact ⟨q, hq, rfl⟩
        · simp at hq; subst hq; exact absurd rfl e
/-- what the values come to, in order -/
theorem tog_values {D : DataW Unit} {there l : List Sc} (h : Lasts D (there ++ l)) (hr : RisesS there) (hU : OnceS there) {xs ys : List Sc} (hS : ∃ ps, AllP D ps ∧ xs = ps.map (·.2)) (hp : ys.Perm xs) (hs : ys.Pairwise fun a b => ¬ lessS b a) : ys = togS there l := by
  obtain ⟨ps, hA, rfl⟩ := hS
  obtain ⟨hn, -, h2, h3⟩ := hA
  have hval : ∀ q ∈ ps, lastS (there ++ l) q.2.2 = some q.2 ∧ q.2.2.data.toList = q.1 := by
    intro q hq
    obtain ⟨r, hr1, hr2⟩ := (h.has_ q.1).1 ((h2 q.1).1 (List.mem_map.2 ⟨q, hq, rfl⟩))
    obtain ⟨s, hs1⟩ := lastS_some hr1
    have e1 := h.at_ r.2 s hs1 (.nil)
    rw [hr2] at e1
    have e2 : datP q.2 = datP s := (h3 q hq .nil).symm.trans e1
    have e3 := datP_inj e2
    have e4 := lastS_member hs1
    rw [e3]
    exact ⟨by rw [e4]; exact hs1, by rw [e4]; exact hr2⟩
  have hmem : ∀ q, q ∈ ys ↔ q ∈ togS there l := by
    intro q
    rw [hp.mem_iff, mem_togS hU]
    constructor
    · intro hq
      obtain ⟨z, hz, rfl⟩ := List.mem_map.1 hq
      exact (hval z hz).1
    · intro hq
      have hk := (h2 q.2.data.toList).2 ((h.has_ _).2 ⟨q, lastS_mem hq, rfl⟩)
      obtain ⟨z, hz, ez⟩ := List.mem_map.1 hk
      obtain ⟨v1, v2⟩ := hval z hz
      have e1 : z.2.2 = q.2 := bytes_eq (v2.trans ez)
      rw [e1, hq] at v1
      exact List.mem_map.2 ⟨z, hz, (Option.some.inj v1).symm⟩
  have hfn : (ys.map (·.2)).Nodup := by
    have hx : ((ps.map (·.2)).map (·.2)).Nodup := by
      rw [List.map_map]
      have e : ps.map (·.1) = (ps.map ((·.2) ∘ (·.2))).map (fun b : ByteArray => b.data.toList) := by
        rw [List.map_map]
        exact List.map_congr_left fun q hq => (hval q hq).2.symm
      rw [e] at hn
      exact List.Pairwise.of_map _ (fun a b hab e => hab (by rw [e])) hn
    exact (hp.map _).nodup_iff.2 hx
  have hris : RisesS ys := by
    have h4 : ys.Pairwise fun a b => a.2 ≠ b.2 := by
      rw [List.Nodup, List.pairwise_map] at hfn
      exact hfn
    refine (hs.and h4).imp ?_
    rintro a b ⟨ha, hb⟩
    rcases lessS_or a b with h | h | h
    · exact h
    · exact absurd (by rw [h]) hb
    · exact absurd h ha
  exact risesS_unique hris (rises_togS hr l) hmem
theorem keyP {s : ByteArray} (h : s.size ≤ maxLen) : keyOf Tryz.prog 9 (.string s) = some (.string s.data.toList) := WideMaps.keyOf_string_mk Tryz.underlying9 h
theorem pairs_of_own {w : World} {base : Nat} {v : Value} {ms : List Sc} (h : w.ownsRow base 36 2 v ms.length (rowP ms)) : ∃ a cap, v = .slice a ms.length cap ∧ ScoresAt w a ms := by
  rcases h.2 with ⟨rfl, h0⟩ | ⟨g, cap, cur, rfl, _⟩
  · obtain rfl : ms = [] := List.eq_nil_of_length_eq_zero h0
    exact ⟨none, 0, rfl, .inl rfl⟩
  · refine ⟨_, cap, rfl, .inr ⟨g, 0, rfl, fun i hi => ?_⟩⟩
    obtain ⟨r1, r2⟩ := rowP_at ms i hi
    rw [Nat.zero_add]
    exact ⟨by rw [h.cellAt _ (by omega)]; exact r1, by rw [h.cellAt _ (by omega)]; exact r2⟩
/-- so many pairs have been put into the map -/
theorem aside {w w' : World} {m : Nat} {a : Option Addr} {ms : List Sc} {n : Nat} {D : DataW Unit} (h : ScoresAt w a ms) (hm : w.ownsMap Tryz.prog 9 pairElem m n D) (hg : w.grownBy w' (some m)) : ScoresAt w' a ms := by
  refine h.moved fun g o v hv => ?_
  have hlt : g < w.heap.size := World.block_lt_of_cell? _ _ hv
  have hne : some g ≠ some m := by
    intro e
    injection e with e
    subst e
    obtain ⟨es, clock, hb, _⟩ := hm
    simp [World.cell?, hb] at hv
  have hb := hg.block g hlt hne
  rw [← hv]
  unfold World.cell?
  rw [hb]
structure TogAt (w : World) (ms : List Sc) (av : Option Addr) (m : Nat) (k : Nat) (D : DataW Unit) (wr : World) : Prop where
  p : ScoresAt wr av ms
  d : Lasts D (ms.take k)
  o : wr.ownsMap Tryz.prog 9 pairElem m k D
  b : Below w.heap.size w wr
set_option maxRecDepth 100000 in
set_option maxHeartbeats 4000000 in
theorem together_any (a1 a2 : Option Addr) (c1 c2 : Nat) (there l : List Sc) (w : World) (h1 : ScoresAt w a1 there) (h2 : ScoresAt w a2 l) (hn : there.length + l.length ≤ 1500000) (hr : RisesS there) (hU : OnceS there) (hz : ∀ p ∈ there ++ l, p.2.size ≤ maxLen) :
    Calls Tryz.prog 21 #[.slice a1 there.length c1, .slice a2 l.length c2] w fun e w' => ∃ a cap, e = .returned (.slice a (togS there l).length cap) ∧ PairsFrom w.heap.size w' a (togS there l) ∧ Below w.heap.size w w' := by
  have hmm := @run_makeMap Tryz.prog
  have H1 := hide h1
  have H2 := hide h2
  have HZ := hide hz
  have HR := hide hr
  have HU := hide hU
  clear h1 h2 hz hr hU
  go_enter Tryz.func21, Tryz.ntmps21
  go_wp2_with fail
  have hW1 : Below w.heap.size w ((w.alloc (.map #[] 0)).alloc (.cells #[.slice a1 there.length c1, .slice a2 l.length c2] 24)) := ((Below.refl _ w).alloc (Nat.le_refl _) _).alloc (by simp) _
  have hM1 : ((w.alloc (.map #[] 0)).alloc (.cells #[.slice a1 there.length c1, .slice a2 l.length c2] 24)).ownsMap Tryz.prog 9 pairElem w.heap.size 0 (.map []) := (World.ownsMap_made _ _ _ _).alloc _
  refine (concatP_all (w.heap.size + 1) a1 a2 c1 c2 there l _ (by simp [go_sem]) (by simp [go_sem]) (H1.out.below hW1) (H2.out.below hW1) (by omega)).mono ?_
  rintro e w2 ⟨v, rfl, hown2, hb2⟩
  have hW2 : Below w.heap.size w w2 := hW1.trans (hb2.mono hW1.size)
  have hM2 : w2.ownsMap Tryz.prog 9 pairElem w.heap.size 0 (.map []) := hM1.kept (row := none) ⟨hb2.os, hb2.tape, hb2.output, hb2.size, fun j hj _ => hb2.block j hj⟩ (by simp)
  obtain ⟨av, cv, rfl, hV⟩ := pairs_of_own hown2
  have HV := hide hV
  clear hV hown2 hM1 hb2 hW1
  have hlen : (there ++ l).length ≤ 1500000 := by simp; omega
  generalize hMS : there ++ l = MS at *
  have HMS := hide hMS
  clear hMS hn
  go_wp2_with fail
  go_loopw [14] (fun i wr => ∃ (k : Nat) (D : DataW Unit), k ≤ MS.length ∧ i = .int .i64 k ∧ TogAt w MS av w.heap.size k D wr) (fun i _ => MS.length - (intOf i).toNat)
  case atStart => exact ⟨0, .map [], by omega, rfl, ⟨HV.out, by rw [List.take_zero]; exact Lasts.start, hM2, hW2⟩⟩
  case round =>
    clear hM2 HV hW2
    obtain ⟨k, D, hk, rfl, hTA⟩ := hrel
    have HP := hide hTA.p
    have HD := hide hTA.d
    have hown := hTA.o
    have hnx := hTA.b
    clear hTA
    by_cases hlt : k < MS.length
    · have hlt' : ((k : Nat) : Int) < ((MS.length : Nat) : Int) := by omega
      obtain ⟨g, o, rfl, hcs⟩ : ∃ g o, av = some ⟨g, o, none⟩ ∧ ∀ i (h : i < MS.length), wr.cell? ⟨g, o + i * 2, none⟩ = some (.int .i64 MS[i].1) ∧ wr.cell? ⟨g, o + i * 2 + 1, none⟩ = some (.string MS[i].2) := by
        rcases HP.out with h | h
        · subst h; simp at hlt
        · exact h
      obtain ⟨d0, d1⟩ := hcs k hlt
      have HTK : Hid (MS.take (k + 1) = MS.take k ++ [MS[k]]) := List.take_succ_eq_append_getElem hlt
      have hkz : MS[k].2.size ≤ maxLen := HZ.out _ (List.getElem_mem _)
      obtain ⟨X, hX⟩ : ∃ X, X = MS[k] := ⟨_, rfl⟩
      rw [← hX] at d0 d1 HTK hkz
      clear hX hcs
      obtain ⟨X1, X2⟩ := X
      have hkey := keyP hkz
      have hownA := hown.alloc (.cells #[.int .i64 X1, .string X2] 36)
      have hnxA : Below w.heap.size w (wr.alloc (.cells #[.int .i64 X1, .string X2] 36)) := hnx.alloc hnx.size _
      have HPA := hide (HP.out.below ((Below.refl _ wr).alloc (Nat.le_refl _) (.cells #[.int .i64 X1, .string X2] 36)))
      go_wp2_with (at_mapUpdate; refine wpList_mapUpdate_own _ rfl _ _ _ 65 rfl 9 36 keyedS Tryz.underlying65 _ w.heap.size k D rfl hownA (by unfold maxLen; omega) _ _ _ rfl rfl hkey _ [] (pairElem_enc (X1, X2)) ?_)
      intro w5 hown5 hg5
      have B5 := hnxA.grown hg5 hnxA.size (fun j hj => by cases hj; exact Nat.le_refl _)
      have HT5 : Hid (TogAt w MS (some ⟨g, o, none⟩) w.heap.size (k + 1) (D.put (.string X2.data.toList) (datP (X1, X2))) w5) := ⟨aside HPA.out hownA hg5, by rw [HTK.out]; exact HD.out.step hown.isMap (X1, X2), hown5, B5⟩
      clear hown hownA hnxA HPA d0 d1 hkey hg5 hown5 B5 HP HD
      go_wp2_with fail
      go_roundw
      case rel => exact ⟨k + 1, _, by omega, by go_num, HT5.out⟩
      case measure => simp [intOf]; omega
    · have hge : ¬ ((k : Nat) : Int) < ((MS.length : Nat) : Int) := by omega
      obtain rfl : k = MS.length := by omega
      have HD2 : Hid (Lasts D MS) := by have := HD.out; rw [List.take_length] at this; exact this
      clear HD HP
      go_wp2_with fail
      refine ((callsIn_wide (n := 1)).1 (valuesP_in Fence.wide 1 trivial rfl (some w.heap.size) wr)).mono ?_
      rintro e w6 ⟨rfl, rfl⟩
      have hB6 : Below w.heap.size w (wr.alloc (.cells #[.map (some w.heap.size)] 65)) := hnx.alloc hnx.size _
      have hsD : Maps.size D ≤ 2000000 := Nat.le_trans hown.size_le (by omega)
      have HS := hide (valuesP_stops Fence.wide 3 trivial rfl (by omega) wr.heap.size w.heap.size MS.length D (wr.alloc (.cells #[.map (some w.heap.size)] 65)) (by simp) (by simp [go_sem]) (hown.alloc _))
      have eg : ∀ args w, (callFunc 62 args).run Tryz.prog w = .ok (.enter 62 args) w := enters_of Tryz.func62 (by kernel_rfl) rfl
      have HQ := hide (sortedP_any 62 eg _ _ _ _ hsD _ HS.out (fun xs ⟨ps, hA, e⟩ => by rw [e, List.length_map]; exact Nat.le_trans hA.2.1 hsD))
      clear hown HS eg
      go_wp2_with fail
      refine HQ.out.mono ?_
      rintro e w7 ⟨xs, ys, a, cap, hS, hp, hs, rfl, hy, hb7⟩
      obtain rfl : ys = togS there l := tog_values (by rw [HMS.out]; exact HD2.out) HR.out HU.out hS hp hs
      have HY := hide hy
      clear hS hp hs hy HQ
      go_wp2_with fail
      go_ret
      exact ⟨a, cap, rfl, HY.out.mono hB6.size, hB6.trans (hb7.mono hB6.size)⟩
end Go.Proofs.YtnobcdhlagfhmaaGreat.Z
