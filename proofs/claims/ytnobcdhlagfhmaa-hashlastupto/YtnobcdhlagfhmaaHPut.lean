/- WALK of hashes: Put. -/
import Derived.Test.YtnobcdhlagfhmaaHGet
import Derived.Test.YtnobcdhlagfhmaaRIs
import Derived.BigRegion
import Derived.Deep.RegionHeld3
import Derived.Handy
namespace Go.Proofs.Ytnobcdhlagfhmaa
open Go.RowKit

theorem five_apart (w : World) (b : Nat) (v0 v1 v2 v3 v4 : Value) (g o : Nat) (hg : g ≠ b) : (((((w.setCell ⟨b, 0, none⟩ v0).setCell ⟨b, 1, none⟩ v1).setCell ⟨b, 2, none⟩ v2).setCell ⟨b, 3, none⟩ v3).setCell ⟨b, 4, none⟩ v4).cell? ⟨g, o, none⟩ = w.cell? ⟨g, o, none⟩ := by
  rw [World.cell?_setCell_other _ _ _ _ (by intro e; injection e with e1; omega), World.cell?_setCell_other _ _ _ _ (by intro e; injection e with e1; omega), World.cell?_setCell_other _ _ _ _ (by intro e; injection e with e1; omega), World.cell?_setCell_other _ _ _ _ (by intro e; injection e with e1; omega), World.cell?_setCell_other _ _ _ _ (by intro e; injection e with e1; omega)]
/-- an item whose memory lies from block B on -/
def ItemFrom (B : Nat) (w : World) (v : Value) (x : Itm) : Prop := ∀ w', (∀ g o u, B ≤ g → w.cell? ⟨g, o, none⟩ = some u → w'.cell? ⟨g, o, none⟩ = some u) → ItemIs w' v x
theorem ItemFrom.is {B : Nat} {w : World} {v : Value} {x : Itm} (h : ItemFrom B w v x) : ItemIs w v x := h w (fun _ _ _ _ hu => hu)
theorem ItemFrom.moved {B : Nat} {w w' : World} {v : Value} {x : Itm} (h : ItemFrom B w v x) (hw : ∀ g o u, B ≤ g → w.cell? ⟨g, o, none⟩ = some u → w'.cell? ⟨g, o, none⟩ = some u) : ItemFrom B w' v x := fun w'' h2 => h w'' (fun g o u hg hu => h2 g o u hg (hw g o u hg hu))
theorem ItemFrom.low {B C : Nat} {w : World} {v : Value} {x : Itm} (h : ItemFrom B w v x) (hC : C ≤ B) : ItemFrom C w v x := fun w' hw => h w' (fun g o u hg hu => hw g o u (Nat.le_trans hC hg) hu)
theorem wrap_small (a : Int) (h1 : -9223372036854775808 ≤ a) (h2 : a ≤ 9223372036854775807) : IntKind.i64.wrap a = a := by
  simp only [IntKind.wrap, IntKind.bits, IntKind.signed]
  first | omega | (simp; omega)
theorem longH_below (t : ByteArray) (w : World) : Calls Try.prog 55 #[.string t] w fun e w' => e = .returned (.bool (longT t)) ∧ w' = w := by
  have h : decide ((60 : Int) < ((t.size : Nat) : Int)) = longT t := by unfold longT; simp; omega
  go_enter Try.func55, Try.ntmps55
  go_wp2_with fail
  go_ret
  exact ⟨by rw [← h]; rfl, rfl⟩
set_option maxRecDepth 100000 in
theorem longH_any (x : Pr) (w : World) : Calls Try.prog 23 #[.agg #[.string x.1, .string x.2]] w fun e w' => e = .returned (.bool (longP x)) ∧ Below w.heap.size w w' := by
  unfold longP
  go_enter Try.func23, Try.ntmps23
  go_wp2_with fail
  refine (longH_below x.1 _).mono ?_
  rintro e w1 ⟨rfl, rfl⟩
  cases h1 : longT x.1 with
  | true =>
    go_wp2_with fail
    go_ret
    exact ⟨by rw [h1]; rfl, (Below.refl _ w).alloc (Nat.le_refl _) _⟩
  | false =>
    go_wp2_with fail
    refine (longH_below x.2 _).mono ?_
    rintro e w1 ⟨rfl, rfl⟩
    go_wp2_with fail
    go_ret
    exact ⟨by rw [h1]; rfl, (Below.refl _ w).alloc (Nat.le_refl _) _⟩
theorem idxF_any (p : Pr → Bool) (l : List Pr) : decide (0 ≤ idxF p l) = l.any p := by
  rw [Bool.eq_iff_iff, decide_eq_true_iff, List.any_eq_true]
  constructor
  · intro h
    obtain ⟨i, hi⟩ : ∃ i : Nat, idxF p l = i := ⟨(idxF p l).toNat, by omega⟩
    obtain ⟨h1, h2, -⟩ := idxF_at hi
    exact ⟨_, List.getElem_mem h1, h2⟩
  · rintro ⟨x, hx, hp⟩
    refine Decidable.not_not.1 fun h => ?_
    have := idxF_none (show idxF p l < 0 by omega) x hx
    rw [hp] at this
    cases this
set_option maxRecDepth 100000 in
theorem containsH_any (a : Option Addr) (cap : Nat) (ts : List Pr) (w : World) (hs : PairsAt w a ts) (hn : ts.length ≤ 2000000) :
    Calls Try.prog 22 #[.slice a ts.length cap, .func (.func 23) #[] #[]] w fun e w' => e = .returned (.bool (ts.any longP)) ∧ Below w.heap.size w w' := by
  have eg : ∀ args w, (callFunc 23 args).run Try.prog w = .ok (.enter 23 args) w := enters_of Try.func23 (by kernel_rfl) rfl
  have HI := hide (idxP_any 23 #[] eg longP a cap ts w hs hn (fun W x hW => (longH_any x W).mono fun e w' ⟨h1, h2⟩ => ⟨h1, hW.trans (h2.mono hW.size)⟩))
  have HA := hide (idxF_any longP ts)
  clear hs eg
  generalize idxF longP ts = I at *
  go_enter Try.func22, Try.ntmps22
  go_wp2_with fail
  refine HI.out.mono ?_
  rintro e w1 ⟨rfl, hb⟩
  go_wp2_with fail
  go_ret
  exact ⟨by rw [← HA.out]; rfl, hb⟩
/-- the hash of pairs: nothing, if there are none -/
def kindP (l : List Pr) : Itm := if l = [] then Itm.none else ⟨4, ⟨#[]⟩, [], l, []⟩
set_option maxRecDepth 100000 in
theorem hashOf_any (a : Option Addr) (n cap : Nat) (w : World) (hn : n ≤ 281474976710656) :
    Calls Try.prog 24 #[.slice a n cap] w fun e w' => e = .returned (if n = 0 then .agg #[.int .i64 0, .string ⟨#[]⟩, .slice none 0 0, .slice none 0 0, .slice none 0 0] else .agg #[.int .i64 4, .string ⟨#[]⟩, .slice none 0 0, .slice a n cap, .slice none 0 0]) ∧ Below w.heap.size w w' := by
  by_cases h0 : n = 0
  · subst h0
    go_enter Try.func24, Try.ntmps24
    go_wp2_with fail
    refine bodyPost_ret (v := .agg #[.int .i64 0, .string ⟨#[]⟩, .slice none 0 0, .slice none 0 0, .slice none 0 0]) (by simp [results, Try.results24, go_sem]) rfl ⟨rfl, ?_⟩
    go_grown
  · have h0' : ¬ ((n : Nat) : Int) = 0 := by omega
    rw [if_neg h0]
    go_enter Try.func24, Try.ntmps24
    go_wp2_with fail
    refine bodyPost_ret (v := .agg #[.int .i64 4, .string ⟨#[]⟩, .slice none 0 0, .slice a n cap, .slice none 0 0]) (by simp [results, Try.results24, go_sem]) rfl ⟨rfl, ?_⟩
    go_grown
theorem hashOf_item {p : World → Prop} {ao : Option Addr} {cp : Nat} {K : List Pr} (hT : ∀ W, p W → PairsAt W ao K) (hz : ∀ t ∈ K, t.1.size ≤ maxLen ∧ t.2.size ≤ maxLen) (hl : K.length ≤ 281474976710656) :
    ∃ (fk : Int) (fa : Option Addr) (fn fc : Nat), (∀ W, Calls Try.prog 24 #[.slice ao K.length cp] W fun e w' => e = .returned (.agg #[.int .i64 fk, .string ⟨#[]⟩, .slice none 0 0, .slice fa fn fc, .slice none 0 0]) ∧ Below W.heap.size W w') ∧ ∀ W, p W → ItemIs W (.agg #[.int .i64 fk, .string ⟨#[]⟩, .slice none 0 0, .slice fa fn fc, .slice none 0 0]) (kindP K) := by
  by_cases h0 : K = []
  · subst h0
    refine ⟨0, none, 0, 0, fun W => ?_, fun w' _ => zero_is w'⟩
    have := hashOf_any ao 0 cp W (by omega)
    rw [if_pos rfl] at this
    exact this
  · refine ⟨4, ao, K.length, cp, fun W => ?_, fun w' hw => ?_⟩
    · have := hashOf_any ao K.length cp W hl
      rw [if_neg (fun e => h0 (List.eq_nil_of_length_eq_zero e))] at this
      exact this
    · rw [kindP, if_neg h0]
      exact ⟨⟨none, 0, ao, cp, none, 0, rfl, .inl rfl, hT w' hw, .inl rfl⟩, (show (0 : Nat) ≤ maxLen by simp), by simp, hz, by simp, by simp, hl, by simp⟩
/-- what Put answers -/
def putE (x : Itm) (l : List Pr) : Int := if asI x 4 ≠ 0 then asI x 4 else if 24 < (togP x.p l).length ∨ l.any longP = true then 2 else if l = [] then 1 else 0
def putI (x : Itm) (l : List Pr) : Itm := if putE x l = 0 then kindP (togP x.p l) else Itm.none
def putN (x : Itm) (l : List Pr) : Int := if putE x l = 0 then (((togP x.p l).length : Nat) : Int) - ((x.p.length : Nat) : Int) else 0
theorem putP_len (l : List Pr) (p : Pr) : (putP l p).length ≤ l.length + 1 := by
  induction l with
  | nil => simp [putP]
  | cons a r ih =>
    rw [putP]
    split
    · simp; omega
    · split <;> simp
theorem togP_len (there l : List Pr) : (togP there l).length ≤ there.length + l.length := by
  induction l generalizing there with
  | nil => simp [togP]
  | cons p r ih =>
    have h1 := ih (putP there p)
    have h2 := putP_len there p
    simp only [togP, List.foldl_cons, List.length_cons] at *
    omega
set_option maxRecDepth 100000 in
set_option maxHeartbeats 4000000 in
theorem hashPut_any (v : Value) (x : Itm) (al : Option Addr) (cl : Nat) (l : List Pr) (w : World) (h : ItemIs w v x) (hl : PairsAt w al l) (hlz : ∀ t ∈ l, t.1.size ≤ maxLen ∧ t.2.size ≤ maxLen) (hll : l.length ≤ 1400000) :
    Calls Try.prog 6 #[v, .slice al l.length cl] w fun e w' => ∃ u, e = .returned (.tuple #[u, .int .i64 (putN x l), .int .i64 (putE x l)]) ∧ ItemFrom w.heap.size w' u (putI x l) ∧ Below w.heap.size w w' := by
  have HC : Hid (∀ W, Below w.heap.size w W → Calls Try.prog 20 #[v, .int .i64 4] W fun e w' => e = .returned (.int .i64 (asI x 4)) ∧ Below W.heap.size W w') := fun W hW => common_any v x 4 W (h.below hW)
  obtain ⟨⟨a1, c1, a2, c2, a3, c3, rfl, -, hx2, -⟩, tz, -, pz, -, -, -, -⟩ := h
  by_cases h0 : asI x 4 = 0
  · obtain ⟨hrise, hx24, hx60⟩ := asI_hash h0
    rw [h0] at HC
    have HX := hide hx2
    have HL := hide hl
    have HZ : Hid (∀ t ∈ togP x.p l, t.1.size ≤ maxLen ∧ t.2.size ≤ maxLen) := fun t ht => by
      have := lastP_mem ((mem_togP hrise l t).1 ht)
      rcases List.mem_append.1 this with h1 | h1
      · exact pz t h1
      · exact hlz t h1
    have HKL : Hid (∀ W, Below w.heap.size w W → Calls Try.prog 22 #[.slice al l.length cl, .func (.func 23) #[] #[]] W fun e w' => e = .returned (.bool (l.any longP)) ∧ Below W.heap.size W w') := fun W hW => containsH_any al cl l W (HL.out.below hW) (by omega)
    have HTOG : Hid (∀ W, Below w.heap.size w W → Calls Try.prog 21 #[.slice a2 x.p.length c2, .slice al l.length cl] W fun e w' => ∃ a' cap, e = .returned (.slice a' (togP x.p l).length cap) ∧ PairsFrom W.heap.size w' a' (togP x.p l) ∧ Below W.heap.size W w') := fun W hW => together_any a2 al c2 cl x.p l W (HX.out.below hW) (HL.out.below hW) (by omega) hrise (fun p hp => by
      rcases List.mem_append.1 hp with h1 | h1
      · exact (pz p h1).1
      · exact (hlz p h1).1)
    have hkl := togP_len x.p l
    clear hx2 hl pz hlz HX HL hrise hx60
    by_cases h24 : 24 < (togP x.p l).length
    · have hE : putE x l = 2 := by rw [putE, if_neg (by simp [h0]), if_pos (.inl h24)]
      rw [putN, putI, hE, if_neg (by decide), if_neg (by decide)]
      have h24' : (24 : Int) < (((togP x.p l).length : Nat) : Int) := by omega
      clear hE h0 HZ HKL
      generalize togP x.p l = K at *
      generalize x.l.length = n1 at *
      generalize x.t = t at *
      generalize x.k = k at *
      generalize x.p.length = n2 at *
      generalize x.s.length = n3 at *
      go_enter Try.func6, Try.ntmps6
      go_wp2_with fail
      refine (HC.out _ (((Below.refl _ w).alloc (Nat.le_refl _) _).alloc (by simp) _)).mono ?_
      rintro e w1 ⟨rfl, hb1⟩
      obtain ⟨hc, hf⟩ := bcell hb1
      have hz : w.heap.size + 1 < w1.heap.size := by have := hb1.size; simp at this; omega
      have y0 : w.heap.size < w1.heap.size := by omega
      have hB1 : Below w.heap.size w w1 := (((Below.refl _ w).alloc (Nat.le_refl _) _).alloc (by simp) _).trans (hb1.mono (by simp; omega))
      go_wp2_with fail
      have HBX : Hid (∀ W, Below w1.heap.size w1 W → (W.cell? ⟨w.heap.size + 1, 0, none⟩ = some (.int .i64 0) ∧ W.cell? ⟨w.heap.size + 1, 1, none⟩ = some (.string ⟨#[]⟩) ∧ W.cell? ⟨w.heap.size + 1, 2, none⟩ = some (.slice none 0 0) ∧ W.cell? ⟨w.heap.size + 1, 3, none⟩ = some (.slice none 0 0) ∧ W.cell? ⟨w.heap.size + 1, 4, none⟩ = some (.slice none 0 0)) ∧ (∀ j, W.frozen? ⟨w.heap.size + 1, j, none⟩ = false) ∧ W.cell? ⟨w.heap.size, 3, none⟩ = some (.slice a2 n2 c2)) := fun W hW =>
        ⟨⟨(hW.cell (p := ⟨w.heap.size + 1, 0, none⟩) hz).trans ((hc _ _ (by simp)).trans (by simp [go_sem])), (hW.cell (p := ⟨w.heap.size + 1, 1, none⟩) hz).trans ((hc _ _ (by simp)).trans (by simp [go_sem])), (hW.cell (p := ⟨w.heap.size + 1, 2, none⟩) hz).trans ((hc _ _ (by simp)).trans (by simp [go_sem])), (hW.cell (p := ⟨w.heap.size + 1, 3, none⟩) hz).trans ((hc _ _ (by simp)).trans (by simp [go_sem])), (hW.cell (p := ⟨w.heap.size + 1, 4, none⟩) hz).trans ((hc _ _ (by simp)).trans (by simp [go_sem]))⟩, fun j => (hW.frozen (p := ⟨w.heap.size + 1, j, none⟩) hz).trans ((hf _ _ (by simp)).trans (by simp [go_sem])), (hW.cell (p := ⟨w.heap.size, 3, none⟩) y0).trans ((hc _ _ (by simp; omega)).trans (by simp [go_sem]))⟩
      refine (HTOG.out _ hB1).mono ?_
      rintro e w5 ⟨a', cap, rfl, hT5, hb5⟩
      have HT5 := hide hT5
      have hb5' : Below w1.heap.size w1 w5 := hb5
      have zz5 := hb5.size
      clear hT5 HTOG
      have hzB := hB1.size
      obtain ⟨⟨r0, r1, r2, r3, r4⟩, fz, x2⟩ := HBX.out w5 hb5'
      have fz0 := fz 0
      have fz1 := fz 1
      have fz2 := fz 2
      have fz3 := fz 3
      have fz4 := fz 4
      go_wp2_with fail
      refine bodyPost_ret (v := .tuple #[.agg #[.int .i64 0, .string ⟨#[]⟩, .slice none 0 0, .slice none 0 0, .slice none 0 0], .int .i64 0, .int .i64 2]) (by simp [results, Try.results6, go_sem, r0, r1, r2, r3, r4]) rfl ⟨_, rfl, fun w'' _ => zero_is w'', ?_⟩
      have hbb := hB1.trans (hb5'.mono hB1.size)
      go_grown
    · have h24' : ¬ (24 : Int) < (((togP x.p l).length : Nat) : Int) := by omega
      by_cases hlong : l.any longP = true
      · have hE : putE x l = 2 := by rw [putE, if_neg (by simp [h0]), if_pos (.inr hlong)]
        rw [putN, putI, hE, if_neg (by decide), if_neg (by decide)]
        rw [hlong] at HKL
        clear hE h0 HZ hlong
        generalize togP x.p l = K at *
        generalize x.l.length = n1 at *
        generalize x.t = t at *
        generalize x.k = k at *
        generalize x.p.length = n2 at *
        generalize x.s.length = n3 at *
        go_enter Try.func6, Try.ntmps6
        go_wp2_with fail
        refine (HC.out _ (((Below.refl _ w).alloc (Nat.le_refl _) _).alloc (by simp) _)).mono ?_
        rintro e w1 ⟨rfl, hb1⟩
        obtain ⟨hc, hf⟩ := bcell hb1
        have hz : w.heap.size + 1 < w1.heap.size := by have := hb1.size; simp at this; omega
        have y0 : w.heap.size < w1.heap.size := by omega
        have hB1 : Below w.heap.size w w1 := (((Below.refl _ w).alloc (Nat.le_refl _) _).alloc (by simp) _).trans (hb1.mono (by simp; omega))
        go_wp2_with fail
        have HBX : Hid (∀ W, Below w1.heap.size w1 W → (W.cell? ⟨w.heap.size + 1, 0, none⟩ = some (.int .i64 0) ∧ W.cell? ⟨w.heap.size + 1, 1, none⟩ = some (.string ⟨#[]⟩) ∧ W.cell? ⟨w.heap.size + 1, 2, none⟩ = some (.slice none 0 0) ∧ W.cell? ⟨w.heap.size + 1, 3, none⟩ = some (.slice none 0 0) ∧ W.cell? ⟨w.heap.size + 1, 4, none⟩ = some (.slice none 0 0)) ∧ (∀ j, W.frozen? ⟨w.heap.size + 1, j, none⟩ = false) ∧ W.cell? ⟨w.heap.size, 3, none⟩ = some (.slice a2 n2 c2)) := fun W hW =>
          ⟨⟨(hW.cell (p := ⟨w.heap.size + 1, 0, none⟩) hz).trans ((hc _ _ (by simp)).trans (by simp [go_sem])), (hW.cell (p := ⟨w.heap.size + 1, 1, none⟩) hz).trans ((hc _ _ (by simp)).trans (by simp [go_sem])), (hW.cell (p := ⟨w.heap.size + 1, 2, none⟩) hz).trans ((hc _ _ (by simp)).trans (by simp [go_sem])), (hW.cell (p := ⟨w.heap.size + 1, 3, none⟩) hz).trans ((hc _ _ (by simp)).trans (by simp [go_sem])), (hW.cell (p := ⟨w.heap.size + 1, 4, none⟩) hz).trans ((hc _ _ (by simp)).trans (by simp [go_sem]))⟩, fun j => (hW.frozen (p := ⟨w.heap.size + 1, j, none⟩) hz).trans ((hf _ _ (by simp)).trans (by simp [go_sem])), (hW.cell (p := ⟨w.heap.size, 3, none⟩) y0).trans ((hc _ _ (by simp; omega)).trans (by simp [go_sem]))⟩
        refine (HTOG.out _ hB1).mono ?_
        rintro e w5 ⟨a', cap, rfl, hT5, hb5⟩
        have HT5 := hide hT5
        have hb5' : Below w1.heap.size w1 w5 := hb5
        have zz5 := hb5.size
        clear hT5 HTOG
        go_wp2_with fail
        refine (HKL.out _ (hB1.trans (hb5'.mono hB1.size))).mono ?_
        rintro e w6 ⟨rfl, hb6⟩
        have hb6' : Below w1.heap.size w1 w6 := hb5'.trans (hb6.mono hb5'.size)
        have hzB := hB1.size
        obtain ⟨⟨r0, r1, r2, r3, r4⟩, fz, x2⟩ := HBX.out w6 hb6'
        have fz0 := fz 0
        have fz1 := fz 1
        have fz2 := fz 2
        have fz3 := fz 3
        have fz4 := fz 4
        go_wp2_with fail
        refine bodyPost_ret (v := .tuple #[.agg #[.int .i64 0, .string ⟨#[]⟩, .slice none 0 0, .slice none 0 0, .slice none 0 0], .int .i64 0, .int .i64 2]) (by simp [results, Try.results6, go_sem, r0, r1, r2, r3, r4]) rfl ⟨_, rfl, fun w'' _ => zero_is w'', ?_⟩
        have hbb := hB1.trans (hb6'.mono hB1.size)
        go_grown
      · have hlong' : l.any longP = false := by simpa using hlong
        rw [hlong'] at HKL
        by_cases hne : l = []
        · have hE : putE x l = 1 := by rw [putE, if_neg (by simp [h0]), if_neg (by simp [h24, hlong']), if_pos hne]
          rw [putN, putI, hE, if_neg (by decide), if_neg (by decide)]
          have hl0 : l.length = 0 := by rw [hne]; rfl
          clear hE h0 HZ hlong hlong' hne
          generalize togP x.p l = K at *
          generalize l.length = nl at *
          subst hl0
          generalize x.l.length = n1 at *
          generalize x.t = t at *
          generalize x.k = k at *
          generalize x.p.length = n2 at *
          generalize x.s.length = n3 at *
          go_enter Try.func6, Try.ntmps6
          go_wp2_with fail
          refine (HC.out _ (((Below.refl _ w).alloc (Nat.le_refl _) _).alloc (by simp) _)).mono ?_
          rintro e w1 ⟨rfl, hb1⟩
          obtain ⟨hc, hf⟩ := bcell hb1
          have hz : w.heap.size + 1 < w1.heap.size := by have := hb1.size; simp at this; omega
          have y0 : w.heap.size < w1.heap.size := by omega
          have hB1 : Below w.heap.size w w1 := (((Below.refl _ w).alloc (Nat.le_refl _) _).alloc (by simp) _).trans (hb1.mono (by simp; omega))
          go_wp2_with fail
          have HBX : Hid (∀ W, Below w1.heap.size w1 W → (W.cell? ⟨w.heap.size + 1, 0, none⟩ = some (.int .i64 0) ∧ W.cell? ⟨w.heap.size + 1, 1, none⟩ = some (.string ⟨#[]⟩) ∧ W.cell? ⟨w.heap.size + 1, 2, none⟩ = some (.slice none 0 0) ∧ W.cell? ⟨w.heap.size + 1, 3, none⟩ = some (.slice none 0 0) ∧ W.cell? ⟨w.heap.size + 1, 4, none⟩ = some (.slice none 0 0)) ∧ (∀ j, W.frozen? ⟨w.heap.size + 1, j, none⟩ = false) ∧ W.cell? ⟨w.heap.size, 3, none⟩ = some (.slice a2 n2 c2)) := fun W hW =>
            ⟨⟨(hW.cell (p := ⟨w.heap.size + 1, 0, none⟩) hz).trans ((hc _ _ (by simp)).trans (by simp [go_sem])), (hW.cell (p := ⟨w.heap.size + 1, 1, none⟩) hz).trans ((hc _ _ (by simp)).trans (by simp [go_sem])), (hW.cell (p := ⟨w.heap.size + 1, 2, none⟩) hz).trans ((hc _ _ (by simp)).trans (by simp [go_sem])), (hW.cell (p := ⟨w.heap.size + 1, 3, none⟩) hz).trans ((hc _ _ (by simp)).trans (by simp [go_sem])), (hW.cell (p := ⟨w.heap.size + 1, 4, none⟩) hz).trans ((hc _ _ (by simp)).trans (by simp [go_sem]))⟩, fun j => (hW.frozen (p := ⟨w.heap.size + 1, j, none⟩) hz).trans ((hf _ _ (by simp)).trans (by simp [go_sem])), (hW.cell (p := ⟨w.heap.size, 3, none⟩) y0).trans ((hc _ _ (by simp; omega)).trans (by simp [go_sem]))⟩
          refine (HTOG.out _ hB1).mono ?_
          rintro e w5 ⟨a', cap, rfl, hT5, hb5⟩
          have HT5 := hide hT5
          have hb5' : Below w1.heap.size w1 w5 := hb5
          have zz5 := hb5.size
          clear hT5 HTOG
          go_wp2_with fail
          refine (HKL.out _ (hB1.trans (hb5'.mono hB1.size))).mono ?_
          rintro e w6 ⟨rfl, hb6⟩
          have hb6' : Below w1.heap.size w1 w6 := hb5'.trans (hb6.mono hb5'.size)
          have hzB := hB1.size
          obtain ⟨⟨r0, r1, r2, r3, r4⟩, fz, x2⟩ := HBX.out w6 hb6'
          have fz0 := fz 0
          have fz1 := fz 1
          have fz2 := fz 2
          have fz3 := fz 3
          have fz4 := fz 4
          go_wp2_with fail
          refine bodyPost_ret (v := .tuple #[.agg #[.int .i64 0, .string ⟨#[]⟩, .slice none 0 0, .slice none 0 0, .slice none 0 0], .int .i64 0, .int .i64 1]) (by simp [results, Try.results6, go_sem, r0, r1, r2, r3, r4]) rfl ⟨_, rfl, fun w'' _ => zero_is w'', ?_⟩
          have hbb := hB1.trans (hb6'.mono hB1.size)
          go_grown
        · have hE : putE x l = 0 := by rw [putE, if_neg (by simp [h0]), if_neg (by simp [h24, hlong']), if_neg hne]
          rw [putN, putI, hE, if_pos rfl, if_pos rfl]
          have hl0 : ¬ ((l.length : Nat) : Int) = 0 := fun e => hne (List.eq_nil_of_length_eq_zero (by omega))
          clear hE h0 hlong hlong' hne
          generalize togP x.p l = K at *
          generalize x.l.length = n1 at *
          generalize x.t = t at *
          generalize x.k = k at *
          generalize x.p.length = n2 at *
          generalize x.s.length = n3 at *
          go_enter Try.func6, Try.ntmps6
          go_wp2_with fail
          refine (HC.out _ (((Below.refl _ w).alloc (Nat.le_refl _) _).alloc (by simp) _)).mono ?_
          rintro e w1 ⟨rfl, hb1⟩
          obtain ⟨hc, hf⟩ := bcell hb1
          have hz : w.heap.size + 1 < w1.heap.size := by have := hb1.size; simp at this; omega
          have y0 : w.heap.size < w1.heap.size := by omega
          have hB1 : Below w.heap.size w w1 := (((Below.refl _ w).alloc (Nat.le_refl _) _).alloc (by simp) _).trans (hb1.mono (by simp; omega))
          go_wp2_with fail
          have HBX : Hid (∀ W, Below w1.heap.size w1 W → (W.cell? ⟨w.heap.size + 1, 0, none⟩ = some (.int .i64 0) ∧ W.cell? ⟨w.heap.size + 1, 1, none⟩ = some (.string ⟨#[]⟩) ∧ W.cell? ⟨w.heap.size + 1, 2, none⟩ = some (.slice none 0 0) ∧ W.cell? ⟨w.heap.size + 1, 3, none⟩ = some (.slice none 0 0) ∧ W.cell? ⟨w.heap.size + 1, 4, none⟩ = some (.slice none 0 0)) ∧ (∀ j, W.frozen? ⟨w.heap.size + 1, j, none⟩ = false) ∧ W.cell? ⟨w.heap.size, 3, none⟩ = some (.slice a2 n2 c2)) := fun W hW =>
            ⟨⟨(hW.cell (p := ⟨w.heap.size + 1, 0, none⟩) hz).trans ((hc _ _ (by simp)).trans (by simp [go_sem])), (hW.cell (p := ⟨w.heap.size + 1, 1, none⟩) hz).trans ((hc _ _ (by simp)).trans (by simp [go_sem])), (hW.cell (p := ⟨w.heap.size + 1, 2, none⟩) hz).trans ((hc _ _ (by simp)).trans (by simp [go_sem])), (hW.cell (p := ⟨w.heap.size + 1, 3, none⟩) hz).trans ((hc _ _ (by simp)).trans (by simp [go_sem])), (hW.cell (p := ⟨w.heap.size + 1, 4, none⟩) hz).trans ((hc _ _ (by simp)).trans (by simp [go_sem]))⟩, fun j => (hW.frozen (p := ⟨w.heap.size + 1, j, none⟩) hz).trans ((hf _ _ (by simp)).trans (by simp [go_sem])), (hW.cell (p := ⟨w.heap.size, 3, none⟩) y0).trans ((hc _ _ (by simp; omega)).trans (by simp [go_sem]))⟩
          refine (HTOG.out _ hB1).mono ?_
          rintro e w5 ⟨a', cap, rfl, hT5, hb5⟩
          have HT5 := hide hT5
          have hb5' : Below w1.heap.size w1 w5 := hb5
          have zz5 := hb5.size
          clear hT5 HTOG
          go_wp2_with fail
          refine (HKL.out _ (hB1.trans (hb5'.mono hB1.size))).mono ?_
          rintro e w6 ⟨rfl, hb6⟩
          have hb6' : Below w1.heap.size w1 w6 := hb5'.trans (hb6.mono hb5'.size)
          have z6 := hb6.size
          obtain ⟨fk, fa, fn, fc, ho, hi⟩ := hashOf_item (p := fun W' => ∀ g o u, w1.heap.size ≤ g → w6.cell? ⟨g, o, none⟩ = some u → W'.cell? ⟨g, o, none⟩ = some u) (cp := cap) (fun W' hW' => HT5.out W' (fun g o u hg hu => hW' g o u hg ((hb6.cell (p := ⟨g, o, none⟩) (World.block_lt_of_cell? _ _ hu)).trans hu))) HZ.out (by omega)
          have HO := hide ho
          have HI := hide hi
          clear ho hi HT5 HZ HC HKL
          go_wp2_with fail
          obtain ⟨-, -, x2⟩ := HBX.out w6 hb6'
          have hbd : Below w1.heap.size w1 w6.drew := hb6'.drew
          have nn1 : w6.heap.size ≠ w.heap.size + 1 := by omega
          have nn2 : w.heap.size + 1 ≠ w6.heap.size := by omega
          have nn3 : w.heap.size ≠ w.heap.size + 1 := by omega
          have nn4 : w.heap.size + 1 ≠ w.heap.size := by omega
          have nn5 : ¬ w.heap.size = w.heap.size + 1 := by omega
          have hwr := wrap_small (((K.length : Nat) : Int) - ((n2 : Nat) : Int)) (by omega) (by omega)
          have hzl := hb6'.size
          have hz1 := hB1.size
          clear hc hf hb1
          go_region_held3 (fun w' => w'.cell? ⟨w.heap.size, 3, none⟩ = some (.slice a2 n2 c2)) (go_keep)
            ((go_at_call 24; refine (HO.out _).mono ?_; rintro e w9 ⟨rfl, hb9⟩; have hb9' : Below w1.heap.size w1 w9 := hbd.trans (hb9.mono hzl); obtain ⟨⟨b0, b1, b2, b3, b4⟩, fz, x3⟩ := HBX.out w9 hb9'; have fz0 := fz 0; have fz1 := fz 1; have fz2 := fz 2; have fz3 := fz 3; have fz4 := fz 4))
          all_goals
            go_wp2_with fail
            refine bodyPost_ret (v := .tuple #[.agg #[.int .i64 fk, .string ⟨#[]⟩, .slice none 0 0, .slice fa fn fc, .slice none 0 0], .int .i64 (((K.length : Nat) : Int) - ((n2 : Nat) : Int)), .int .i64 0]) (by simp [results, Try.results6, go_sem, b0, b1, b2, b3, b4]) rfl ⟨_, rfl, ?_, ?_⟩
            · exact fun w'' hw => HI.out w'' (fun g' o' u' hg hu => hw g' o' u' (by omega) ((five_apart w9 (w.heap.size + 1) _ _ _ _ _ g' o' (by omega)).trans ((hb9.cell (p := ⟨g', o', none⟩) (World.block_lt_of_cell? w6 _ hu)).trans hu)))
            · have hb9'' := hB1.trans (hb9'.mono hz1)
              go_grown
  · have hE : putE x l = asI x 4 := by rw [putE, if_pos h0]
    rw [putN, putI, hE, if_neg h0, if_neg h0]
    have h0' : (asI x 4 == 0) = false := by rw [beq_eq_false_iff_ne]; exact h0
    clear hx2 hl hE
    generalize asI x 4 = E at *
    generalize x.l.length = n1 at *
    generalize x.t = t at *
    generalize x.k = k at *
    generalize x.p.length = n2 at *
    generalize x.s.length = n3 at *
    go_enter Try.func6, Try.ntmps6
    go_wp2_with fail
    refine (HC.out _ (((Below.refl _ w).alloc (Nat.le_refl _) _).alloc (by simp) _)).mono ?_
    rintro e w1 ⟨rfl, hb1⟩
    obtain ⟨hc, hf⟩ := bcell hb1
    have hz : w.heap.size + 1 < w1.heap.size := by have := hb1.size; simp at this; omega
    have y0 : w.heap.size < w1.heap.size := by omega
    have hB1 : Below w.heap.size w w1 := (((Below.refl _ w).alloc (Nat.le_refl _) _).alloc (by simp) _).trans (hb1.mono (by simp; omega))
    go_wp2_with fail
    refine bodyPost_ret (v := .tuple #[.agg #[.int .i64 0, .string ⟨#[]⟩, .slice none 0 0, .slice none 0 0, .slice none 0 0], .int .i64 0, .int .i64 E]) (by simp [results, Try.results6, go_sem, hc]) rfl ⟨_, rfl, fun w'' _ => zero_is w'', ?_⟩
    go_grown
end Go.Proofs.Ytnobcdhlagfhmaa
