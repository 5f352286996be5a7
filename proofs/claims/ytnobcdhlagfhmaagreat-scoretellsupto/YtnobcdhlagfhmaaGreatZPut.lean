/- WALK of scores: Put. -/
import Derived.Test.YtnobcdhlagfhmaaGreatZGet
import Derived.Test.YtnobcdhlagfhmaaGreatRIs
import Derived.BigRegion
import Derived.Deep.RegionHeld3
import Derived.Handy
namespace Go.Proofs.YtnobcdhlagfhmaaGreat.Z
open Go.RowKit

theorem five_apart (w : World) (b : Nat) (v0 v1 v2 v3 v4 : Value) (g o : Nat) (hg : g ≠ b) : (((((w.setCell ⟨b, 0, none⟩ v0).setCell ⟨b, 1, none⟩ v1).setCell ⟨b, 2, none⟩ v2).setCell ⟨b, 3, none⟩ v3).setCell ⟨b, 4, none⟩ v4).cell? ⟨g, o, none⟩ = w.cell? ⟨g, o, none⟩ := by
  rw [World.cell?_setCell_other _ _ _ _ (by intro e; injection e with e1; omega), World.cell?_setCell_other _ _ _ _ (by intro e; injection e with e1; omega), World.cell?_setCell_other _ _ _ _ (by intro e; injection e with e1; omega), World.cell?_setCell_other _ _ _ _ (by intro e; injection e with e1; omega), World.cell?_setCell_other _ _ _ _ (by intro e; injection e with e1; omega)]
/-- an item whose memory lies from block B on -/
def ItemFrom (B : Nat) (w : World) (v : Value) (x : Itm) : Prop := ∀ w', (∀ g o u, B ≤ g → w.cell? ⟨g, o, none⟩ = some u → w'.cell? ⟨g, o, none⟩ = some u) → ItemIs w' v x
theorem ItemFrom.is {B : Nat} {w : World} {v : Value} {x : Itm} (h : ItemFrom B w v x) : ItemIs w v x := h w (fun _ _ _ _ hu => hu)
theorem ItemFrom.moved {B : Nat} {w w' : World} {v : Value} {x : Itm} (h : ItemFrom B w v x) (hw : ∀ g o u, B ≤ g → w.cell? ⟨g, o, none⟩ = some u → w'.cell? ⟨g, o, none⟩ = some u) : ItemFrom B w' v x := fun w'' h2 => h w'' (fun g o u hg hu => h2 g o u hg (hw g o u hg hu))
theorem ItemFrom.low {B C : Nat} {w : World} {v : Value} {x : Itm} (h : ItemFrom B w v x) (hC : C ≤ B) : ItemFrom C w v x := fun w' hw => h w' (fun g o u hg hu => hw g o u (Nat.le_trans hC hg) hu)
theorem wrap_small (a : Int) (h1 : -9223372036854775808 ≤ a) (h2 : a ≤ 9223372036854775807) : IntKind.i64.wrap a = a := by
  simp only [IntKind.wrap, IntKind.bits, IntKind.signed]
  first | omega | (simp; omega)
/-- what is wrong with a score -/
def checkS (p : Sc) : Int := if ¬ (-999999999 ≤ p.1 ∧ p.1 ≤ 999999999) then 3 else if longT p.2 = true then 2 else 0
/-- .. with the first one that has something wrong -/
def wrongS : List Sc → Int
  | [] => 0
  | p :: r => if checkS p ≠ 0 then checkS p else wrongS r
theorem wrongS_zero {l : List Sc} (h : wrongS l = 0) : ∀ p ∈ l, checkS p = 0 := by
  induction l with
  | nil => intro p hp; cases hp
  | cons a r ih =>
    rw [wrongS] at h
    split at h
    · rename_i h1; exact absurd h h1
    · rename_i h1
      intro p hp
      rcases List.mem_cons.1 hp with e | hp
      · rw [e]; simpa using h1
      · exact ih h p hp
theorem longZ_below (t : ByteArray) (w : World) : Calls Tryz.prog 45 #[.string t] w fun e w' => e = .returned (.bool (longT t)) ∧ w' = w := by
  have h : decide ((60 : Int) < ((t.size : Nat) : Int)) = longT t := by unfold longT; simp; omega
  go_enter Tryz.func45, Tryz.ntmps45
  go_wp2_with fail
  go_ret
  exact ⟨by rw [← h]; rfl, rfl⟩
theorem mayZ_any (n : Int) (w : World) : Calls Tryz.prog 44 #[.int .i64 n] w fun e w' => e = .returned (.bool (decide (-999999999 ≤ n ∧ n ≤ 999999999))) ∧ w' = w := by
  by_cases h1 : -999999999 ≤ n
  · have hv : decide (-999999999 ≤ n ∧ n ≤ 999999999) = decide (n ≤ 999999999) := by simp [h1]
    rw [hv]
    clear hv
    go_enter Tryz.func44, Tryz.ntmps44
    go_wp2_with fail
    go_ret
    exact ⟨rfl, rfl⟩
  · have hv : decide (-999999999 ≤ n ∧ n ≤ 999999999) = false := by simp [h1]
    rw [hv]
    clear hv
    go_enter Tryz.func44, Tryz.ntmps44
    go_wp2_with fail
    go_ret
    exact ⟨rfl, rfl⟩
set_option maxRecDepth 100000 in
theorem check_any (p : Sc) (w : World) : Calls Tryz.prog 20 #[.agg #[.int .i64 p.1, .string p.2]] w fun e w' => e = .returned (.int .i64 (checkS p)) ∧ Below w.heap.size w w' := by
  unfold checkS
  obtain ⟨X1, X2⟩ := p
  have HM : Hid (∀ W, Calls Tryz.prog 44 #[.int .i64 X1] W fun e w' => e = .returned (.bool (decide (-999999999 ≤ X1 ∧ X1 ≤ 999999999))) ∧ w' = W) := fun W => mayZ_any X1 W
  have HO : Hid (∀ W, Calls Tryz.prog 45 #[.string X2] W fun e w' => e = .returned (.bool (longT X2)) ∧ w' = W) := fun W => longZ_below X2 W
  dsimp only
  by_cases h1 : -999999999 ≤ X1 ∧ X1 ≤ 999999999
  · rw [if_neg (by simp; exact h1)]
    rw [decide_eq_true h1] at HM
    clear h1
    cases h2 : longT X2 with
    | true =>
      rw [if_pos rfl]
      rw [h2] at HO
      clear h2
      go_enter Tryz.func20, Tryz.ntmps20
      go_wp2_with fail
      refine (HM.out _).mono ?_
      rintro e w1 ⟨rfl, rfl⟩
      go_wp2_with fail
      refine (HO.out _).mono ?_
      rintro e w1 ⟨rfl, rfl⟩
      go_wp2_with fail
      go_ret
      exact ⟨rfl, (Below.refl _ w).alloc (Nat.le_refl _) _⟩
    | false =>
      rw [if_neg (by decide)]
      rw [h2] at HO
      clear h2
      go_enter Tryz.func20, Tryz.ntmps20
      go_wp2_with fail
      refine (HM.out _).mono ?_
      rintro e w1 ⟨rfl, rfl⟩
      go_wp2_with fail
      refine (HO.out _).mono ?_
      rintro e w1 ⟨rfl, rfl⟩
      go_wp2_with fail
      go_ret
      exact ⟨rfl, (Below.refl _ w).alloc (Nat.le_refl _) _⟩
  · rw [if_pos h1]
    rw [decide_eq_false h1] at HM
    clear h1
    go_enter Tryz.func20, Tryz.ntmps20
    go_wp2_with fail
    refine (HM.out _).mono ?_
    rintro e w1 ⟨rfl, rfl⟩
    go_wp2_with fail
    go_ret
    exact ⟨rfl, (Below.refl _ w).alloc (Nat.le_refl _) _⟩
/-- scores as an item: nothing, if there are none -/
def kindS (l : List Sc) : Itm := if l = [] then Itm.none else ⟨5, ⟨#[]⟩, [], [], l⟩
set_option maxRecDepth 100000 in
set_option maxHeartbeats 1000000 in
theorem scoreOf_any (a : Option Addr) (n cap : Nat) (w : World) (hn : n ≤ 281474976710656) :
    Calls Tryz.prog 22 #[.slice a n cap] w fun e w' => e = .returned (if n = 0 then .agg #[.int .i64 0, .string ⟨#[]⟩, .slice none 0 0, .slice none 0 0, .slice none 0 0] else .agg #[.int .i64 5, .string ⟨#[]⟩, .slice none 0 0, .slice none 0 0, .slice a n cap]) ∧ Below w.heap.size w w' := by
  by_cases h0 : n = 0
  · subst h0
    go_enter Tryz.func22, Tryz.ntmps22
    go_wp2_with fail
    refine bodyPost_ret (v := .agg #[.int .i64 0, .string ⟨#[]⟩, .slice none 0 0, .slice none 0 0, .slice none 0 0]) (by simp [results, Tryz.results22, go_sem]) rfl ⟨rfl, ?_⟩
    go_grown
  · have h0' : ¬ ((n : Nat) : Int) = 0 := by omega
    rw [if_neg h0]
    go_enter Tryz.func22, Tryz.ntmps22
    go_wp2_with fail
    refine bodyPost_ret (v := .agg #[.int .i64 5, .string ⟨#[]⟩, .slice none 0 0, .slice none 0 0, .slice a n cap]) (by simp [results, Tryz.results22, go_sem]) rfl ⟨rfl, ?_⟩
    go_grown
theorem scoreOf_item {p : World → Prop} {ao : Option Addr} {cp : Nat} {K : List Sc} (hT : ∀ W, p W → ScoresAt W ao K) (hz : ∀ t ∈ K, t.2.size ≤ maxLen) (hl : K.length ≤ 281474976710656) :
    ∃ (fk : Int) (fa : Option Addr) (fn fc : Nat), (∀ W, Calls Tryz.prog 22 #[.slice ao K.length cp] W fun e w' => e = .returned (.agg #[.int .i64 fk, .string ⟨#[]⟩, .slice none 0 0, .slice none 0 0, .slice fa fn fc]) ∧ Below W.heap.size W w') ∧ ∀ W, p W → ItemIs W (.agg #[.int .i64 fk, .string ⟨#[]⟩, .slice none 0 0, .slice none 0 0, .slice fa fn fc]) (kindS K) := by
  by_cases h0 : K = []
  · subst h0
    refine ⟨0, none, 0, 0, fun W => ?_, fun w' _ => zero_is w'⟩
    have := scoreOf_any ao 0 cp W (by omega)
    rw [if_pos rfl] at this
    exact this
  · refine ⟨5, ao, K.length, cp, fun W => ?_, fun w' hw => ?_⟩
    · have := scoreOf_any ao K.length cp W hl
      rw [if_neg (fun e => h0 (List.eq_nil_of_length_eq_zero e))] at this
      exact this
    · rw [kindS, if_neg h0]
      exact ⟨⟨none, 0, none, 0, ao, cp, rfl, .inl rfl, .inl rfl, hT w' hw⟩, (show (0 : Nat) ≤ maxLen by simp), by simp, by simp, hz, by simp, by simp, hl⟩
/-- what Put answers -/
def putE (x : Itm) (l : List Sc) : Int := if asI x 5 ≠ 0 then asI x 5 else if wrongS l ≠ 0 then wrongS l else if 24 < (togS x.s l).length then 2 else if l = [] then 1 else 0
def putI (x : Itm) (l : List Sc) : Itm := if putE x l = 0 then kindS (togS x.s l) else Itm.none
def putN (x : Itm) (l : List Sc) : Int := if putE x l = 0 then (((togS x.s l).length : Nat) : Int) - ((x.s.length : Nat) : Int) else 0
set_option maxRecDepth 100000 in
set_option maxHeartbeats 4000000 in
theorem scorePut_wrong (v : Value) (x : Itm) (al : Option Addr) (cl : Nat) (l : List Sc) (w : World) (h : ItemIs w v x) (hl : ScoresAt w al l) (hll : l.length ≤ 1400000) (hw : asI x 5 ≠ 0 ∨ wrongS l ≠ 0) :
    Calls Tryz.prog 4 #[v, .slice al l.length cl] w fun e w' => ∃ u, e = .returned (.tuple #[u, .int .i64 (putN x l), .int .i64 (putE x l)]) ∧ ItemFrom w.heap.size w' u (putI x l) ∧ Below w.heap.size w w' := by
  have HC : Hid (∀ W, Below w.heap.size w W → Calls Tryz.prog 19 #[v, .int .i64 5] W fun e w' => e = .returned (.int .i64 (asI x 5)) ∧ Below W.heap.size W w') := fun W hW => common_any v x 5 W (h.below hW)
  obtain ⟨⟨a1, c1, a2, c2, a3, c3, rfl, -, -, -⟩, -, -, -, -, -, -, -⟩ := h
  have HL := hide hl
  clear hl
  by_cases h0 : asI x 5 = 0
  · have hwr : wrongS l ≠ 0 := hw.resolve_left (by simp [h0])
    have hE : putE x l = wrongS l := by rw [putE, if_neg (by simp [h0]), if_pos hwr]
    rw [putN, putI, hE, if_neg hwr, if_neg hwr]
    rw [h0] at HC
    have HWR := hide hwr
    clear hE h0 hw hwr
    generalize hWE : wrongS l = WE at HWR ⊢
    have HWE := hide hWE
    clear hWE
    generalize x.s.length = n3 at *
    generalize x.l.length = n1 at *
    generalize x.t = t at *
    generalize x.k = k at *
    generalize x.p.length = n2 at *
    go_enter Tryz.func4, Tryz.ntmps4
    go_wp2_with fail
    refine (HC.out _ (((Below.refl _ w).alloc (Nat.le_refl _) _).alloc (by simp) _)).mono ?_
    rintro e w1 ⟨rfl, hb1⟩
    obtain ⟨hc, hf⟩ := bcell hb1
    have hz : w.heap.size + 1 < w1.heap.size := by have := hb1.size; simp at this; omega
    have hy : w.heap.size < w1.heap.size := by omega
    have hB1 : Below w.heap.size w w1 := (((Below.refl _ w).alloc (Nat.le_refl _) _).alloc (by simp) _).trans (hb1.mono (by simp; omega))
    have HBX : Hid (∀ W, Below w1.heap.size w1 W → (W.cell? ⟨w.heap.size + 1, 0, none⟩ = some (.int .i64 0) ∧ W.cell? ⟨w.heap.size + 1, 1, none⟩ = some (.string ⟨#[]⟩) ∧ W.cell? ⟨w.heap.size + 1, 2, none⟩ = some (.slice none 0 0) ∧ W.cell? ⟨w.heap.size + 1, 3, none⟩ = some (.slice none 0 0) ∧ W.cell? ⟨w.heap.size + 1, 4, none⟩ = some (.slice none 0 0)) ∧ (∀ j, W.frozen? ⟨w.heap.size + 1, j, none⟩ = false) ∧ W.cell? ⟨w.heap.size, 4, none⟩ = some (.slice a3 n3 c3)) := fun W hW =>
      ⟨⟨(hW.cell (p := ⟨w.heap.size + 1, 0, none⟩) hz).trans ((hc _ _ (by simp)).trans (by simp [go_sem])), (hW.cell (p := ⟨w.heap.size + 1, 1, none⟩) hz).trans ((hc _ _ (by simp)).trans (by simp [go_sem])), (hW.cell (p := ⟨w.heap.size + 1, 2, none⟩) hz).trans ((hc _ _ (by simp)).trans (by simp [go_sem])), (hW.cell (p := ⟨w.heap.size + 1, 3, none⟩) hz).trans ((hc _ _ (by simp)).trans (by simp [go_sem])), (hW.cell (p := ⟨w.heap.size + 1, 4, none⟩) hz).trans ((hc _ _ (by simp)).trans (by simp [go_sem]))⟩, fun j => (hW.frozen (p := ⟨w.heap.size + 1, j, none⟩) hz).trans ((hf _ _ (by simp)).trans (by simp [go_sem])), (hW.cell (p := ⟨w.heap.size, 4, none⟩) hy).trans ((hc _ _ (by simp; omega)).trans (by simp [go_sem]))⟩
    have hz1 := hB1.size
    clear hc hf hb1 HC
    go_wp2_with fail
    go_loopw [20] (fun iv wr => ∃ q : Nat, q ≤ l.length ∧ iv = .int .i64 q ∧ Hid (wrongS l = wrongS (l.drop q)) ∧ Below w1.heap.size w1 wr) (fun iv _ => l.length - (intOf iv).toNat)
    case atStart => exact ⟨0, Nat.zero_le _, rfl, rfl, Below.refl _ _⟩
    case round =>
      obtain ⟨q, hq, rfl, HW, hbr⟩ := hrel
      have hsz := hbr.size
      have hBr : Below w.heap.size w wr := hB1.trans (hbr.mono hz1)
      have hlt : q < l.length := by
        refine Decidable.not_not.1 fun hn => HWR.out ?_
        rw [← HWE.out, HW.out, List.drop_eq_nil_of_le (by omega)]
        rfl
      have hlt' : ((q : Nat) : Int) < ((l.length : Nat) : Int) := by omega
      obtain ⟨g0, o0, rfl, hcs⟩ : ∃ g o, al = some ⟨g, o, none⟩ ∧ ∀ i (h : i < l.length), w.cell? ⟨g, o + i * 2, none⟩ = some (.int .i64 l[i].1) ∧ w.cell? ⟨g, o + i * 2 + 1, none⟩ = some (.string l[i].2) := by
        rcases HL.out with h | h
        · rw [h] at hlt; simp at hlt
        · exact h
      have d0 := (hBr.cell (p := ⟨g0, o0 + q * 2, none⟩) (World.block_lt_of_cell? _ _ (hcs q hlt).1)).trans (hcs q hlt).1
      have d1 := (hBr.cell (p := ⟨g0, o0 + q * 2 + 1, none⟩) (World.block_lt_of_cell? _ _ (hcs q hlt).2)).trans (hcs q hlt).2
      have HST : Hid (wrongS l = if checkS l[q] ≠ 0 then checkS l[q] else wrongS (l.drop (q + 1))) := by rw [Hid, HW.out, List.drop_eq_getElem_cons hlt, wrongS]
      have HCK := hide (check_any l[q])
      have CA := hbr.alloc hsz (.cells #[.int .i64 l[q].1, .string l[q].2] 36)
      clear hcs
      generalize l[q] = X at *
      obtain ⟨X1, X2⟩ := X
      dsimp only at d0 d1 HCK CA
      by_cases hck : checkS (X1, X2) = 0
      · have HW2 : Hid (wrongS l = wrongS (l.drop (q + 1))) := by rw [Hid, HST.out, if_neg (by simp [hck])]
        rw [hck] at HCK
        clear HST hck HWR HWE HW
        go_wp2_with fail
        refine (HCK.out _).mono ?_
        rintro e w5 ⟨rfl, hb5⟩
        have C5 := CA.trans (hb5.mono CA.size)
        clear hb5 CA
        go_wp2_with fail
        go_roundw
        case rel => exact ⟨q + 1, by omega, by go_num, HW2, C5⟩
        case measure => simp [intOf]; omega
      · have HW2 : Hid (checkS (X1, X2) = WE) := by rw [Hid, ← HWE.out, HST.out, if_pos hck]
        have hck' : (checkS (X1, X2) == 0) = false := by rw [beq_eq_false_iff_ne]; exact hck
        rw [HW2.out] at HCK hck'
        clear HST hck HWR HWE HW HW2
        go_wp2_with fail
        refine (HCK.out _).mono ?_
        rintro e w5 ⟨rfl, hb5⟩
        have C5 := CA.trans (hb5.mono CA.size)
        clear hb5 CA
        obtain ⟨⟨r0, r1, r2, r3, r4⟩, fz, x2⟩ := HBX.out w5 C5
        have fz0 := fz 0
        have fz1 := fz 1
        have fz2 := fz 2
        have fz3 := fz 3
        have fz4 := fz 4
        have hB5 := hB1.trans (C5.mono hz1)
        go_wp2_with fail
        refine bodyPost_ret (v := .tuple #[.agg #[.int .i64 0, .string ⟨#[]⟩, .slice none 0 0, .slice none 0 0, .slice none 0 0], .int .i64 0, .int .i64 WE]) (by simp [results, Tryz.results4, go_sem, r0, r1, r2, r3, r4]) rfl ⟨_, rfl, fun w'' _ => zero_is w'', ?_⟩
        go_grown
  · have hE : putE x l = asI x 5 := by rw [putE, if_pos h0]
    rw [putN, putI, hE, if_neg h0, if_neg h0]
    have h0' : (asI x 5 == 0) = false := by rw [beq_eq_false_iff_ne]; exact h0
    clear hE hw
    generalize asI x 5 = E at *
    generalize x.s.length = n3 at *
    generalize x.l.length = n1 at *
    generalize x.t = t at *
    generalize x.k = k at *
    generalize x.p.length = n2 at *
    go_enter Tryz.func4, Tryz.ntmps4
    go_wp2_with fail
    refine (HC.out _ (((Below.refl _ w).alloc (Nat.le_refl _) _).alloc (by simp) _)).mono ?_
    rintro e w1 ⟨rfl, hb1⟩
    obtain ⟨hc, hf⟩ := bcell hb1
    have hz : w.heap.size + 1 < w1.heap.size := by have := hb1.size; simp at this; omega
    have hy : w.heap.size < w1.heap.size := by omega
    have hB1 : Below w.heap.size w w1 := (((Below.refl _ w).alloc (Nat.le_refl _) _).alloc (by simp) _).trans (hb1.mono (by simp; omega))
    go_wp2_with fail
    refine bodyPost_ret (v := .tuple #[.agg #[.int .i64 0, .string ⟨#[]⟩, .slice none 0 0, .slice none 0 0, .slice none 0 0], .int .i64 0, .int .i64 E]) (by simp [results, Tryz.results4, go_sem, hc]) rfl ⟨_, rfl, fun w'' _ => zero_is w'', ?_⟩
    go_grown
theorem checkS_ok {p : Sc} (h : checkS p = 0) : -999999999 ≤ p.1 ∧ p.1 ≤ 999999999 ∧ p.2.size ≤ 60 := by
  unfold checkS at h
  split at h
  · cases h
  · rename_i h1
    split at h
    · cases h
    · rename_i h2
      have h3 : longT p.2 = false := by simpa using h2
      unfold longT at h3
      rw [decide_eq_false_iff_not] at h3
      have := Decidable.not_not.1 h1
      exact ⟨this.1, this.2, by omega⟩
set_option maxRecDepth 100000 in
set_option maxHeartbeats 8000000 in
theorem scorePut_right (v : Value) (x : Itm) (al : Option Addr) (cl : Nat) (l : List Sc) (w : World) (h : ItemIs w v x) (hl : ScoresAt w al l) (hll : l.length ≤ 1400000) (h0 : asI x 5 = 0) (hwr : wrongS l = 0) :
    Calls Tryz.prog 4 #[v, .slice al l.length cl] w fun e w' => ∃ u, e = .returned (.tuple #[u, .int .i64 (putN x l), .int .i64 (putE x l)]) ∧ ItemFrom w.heap.size w' u (putI x l) ∧ Below w.heap.size w w' := by
  have HC : Hid (∀ W, Below w.heap.size w W → Calls Tryz.prog 19 #[v, .int .i64 5] W fun e w' => e = .returned (.int .i64 (asI x 5)) ∧ Below W.heap.size W w') := fun W hW => common_any v x 5 W (h.below hW)
  obtain ⟨⟨a1, c1, a2, c2, a3, c3, rfl, -, -, hx3⟩, -, -, -, sz, -, -, -⟩ := h
  have AS := asI_score h0
  have h24 := AS.n
  have HL := hide hl
  have HX := hide hx3
  have HTOG : Hid (∀ W, Below w.heap.size w W → Calls Tryz.prog 21 #[.slice a3 x.s.length c3, .slice al l.length cl] W fun e w' => ∃ a cap, e = .returned (.slice a (togS x.s l).length cap) ∧ PairsFrom W.heap.size w' a (togS x.s l) ∧ Below W.heap.size W w') := fun W hW => together_any a3 al c3 cl x.s l W (HX.out.below hW) (HL.out.below hW) (by omega) AS.r AS.o (fun p hp => by
    rcases List.mem_append.1 hp with h1 | h1
    · exact sz p h1
    · have := (checkS_ok (wrongS_zero hwr p h1)).2.2
      unfold maxLen
      omega)
  have HZ : Hid (∀ t ∈ togS x.s l, t.2.size ≤ maxLen) := fun t ht => by
    have hm := lastS_mem ((mem_togS AS.o l t).1 ht)
    rcases List.mem_append.1 hm with h1 | h1
    · exact sz t h1
    · have := (checkS_ok (wrongS_zero hwr t h1)).2.2
      unfold maxLen
      omega
  have hkl := togS_len x.s l
  have HNE : Hid (l.length = 0 ↔ l = []) := List.length_eq_zero_iff
  obtain ⟨PE, PN, PI, e1, e2, e3, HP⟩ : ∃ PE PN PI, PE = putE x l ∧ PN = putN x l ∧ PI = putI x l ∧ Hid ((24 < (togS x.s l).length → PE = 2 ∧ PN = 0 ∧ PI = Itm.none) ∧ (¬ 24 < (togS x.s l).length → l.length = 0 → PE = 1 ∧ PN = 0 ∧ PI = Itm.none) ∧ (¬ 24 < (togS x.s l).length → ¬ l.length = 0 → PE = 0 ∧ PN = (((togS x.s l).length : Nat) : Int) - ((x.s.length : Nat) : Int) ∧ PI = kindS (togS x.s l))) := by
    refine ⟨_, _, _, rfl, rfl, rfl, fun h => ?_, fun h hl0 => ?_, fun h hl0 => ?_⟩
    · have hE : putE x l = 2 := by rw [putE, if_neg (by simp [h0]), if_neg (by simp [hwr]), if_pos h]
      rw [putN, putI, hE]
      exact ⟨rfl, rfl, rfl⟩
    · have hE : putE x l = 1 := by rw [putE, if_neg (by simp [h0]), if_neg (by simp [hwr]), if_neg h, if_pos (HNE.out.1 hl0)]
      rw [putN, putI, hE]
      exact ⟨rfl, rfl, rfl⟩
    · have hE : putE x l = 0 := by rw [putE, if_neg (by simp [h0]), if_neg (by simp [hwr]), if_neg h, if_neg (fun e => hl0 (HNE.out.2 e))]
      rw [putN, putI, hE]
      exact ⟨rfl, rfl, rfl⟩
  rw [← e1, ← e2, ← e3]
  rw [h0] at HC
  have HWR := hide hwr
  clear e1 e2 e3 h0 hwr hl hx3 AS sz HNE
  generalize togS x.s l = K at *
  generalize x.s.length = n3 at *
  generalize x.l.length = n1 at *
  generalize x.t = t at *
  generalize x.k = k at *
  generalize x.p.length = n2 at *
  go_enter Tryz.func4, Tryz.ntmps4
  go_wp2_with fail
  refine (HC.out _ (((Below.refl _ w).alloc (Nat.le_refl _) _).alloc (by simp) _)).mono ?_
  rintro e w1 ⟨rfl, hb1⟩
  obtain ⟨hc, hf⟩ := bcell hb1
  have hz : w.heap.size + 1 < w1.heap.size := by have := hb1.size; simp at this; omega
  have hy : w.heap.size < w1.heap.size := by omega
  have hB1 : Below w.heap.size w w1 := (((Below.refl _ w).alloc (Nat.le_refl _) _).alloc (by simp) _).trans (hb1.mono (by simp; omega))
  have HBX : Hid (∀ W, Below w1.heap.size w1 W → (W.cell? ⟨w.heap.size + 1, 0, none⟩ = some (.int .i64 0) ∧ W.cell? ⟨w.heap.size + 1, 1, none⟩ = some (.string ⟨#[]⟩) ∧ W.cell? ⟨w.heap.size + 1, 2, none⟩ = some (.slice none 0 0) ∧ W.cell? ⟨w.heap.size + 1, 3, none⟩ = some (.slice none 0 0) ∧ W.cell? ⟨w.heap.size + 1, 4, none⟩ = some (.slice none 0 0)) ∧ (∀ j, W.frozen? ⟨w.heap.size + 1, j, none⟩ = false) ∧ W.cell? ⟨w.heap.size, 4, none⟩ = some (.slice a3 n3 c3)) := fun W hW =>
    ⟨⟨(hW.cell (p := ⟨w.heap.size + 1, 0, none⟩) hz).trans ((hc _ _ (by simp)).trans (by simp [go_sem])), (hW.cell (p := ⟨w.heap.size + 1, 1, none⟩) hz).trans ((hc _ _ (by simp)).trans (by simp [go_sem])), (hW.cell (p := ⟨w.heap.size + 1, 2, none⟩) hz).trans ((hc _ _ (by simp)).trans (by simp [go_sem])), (hW.cell (p := ⟨w.heap.size + 1, 3, none⟩) hz).trans ((hc _ _ (by simp)).trans (by simp [go_sem])), (hW.cell (p := ⟨w.heap.size + 1, 4, none⟩) hz).trans ((hc _ _ (by simp)).trans (by simp [go_sem]))⟩, fun j => (hW.frozen (p := ⟨w.heap.size + 1, j, none⟩) hz).trans ((hf _ _ (by simp)).trans (by simp [go_sem])), (hW.cell (p := ⟨w.heap.size, 4, none⟩) hy).trans ((hc _ _ (by simp; omega)).trans (by simp [go_sem]))⟩
  have hz1 := hB1.size
  clear hc hf hb1 HC
  go_wp2_with fail
  go_loopw [20] (fun iv wr => ∃ q : Nat, q ≤ l.length ∧ iv = .int .i64 q ∧ Hid (wrongS l = wrongS (l.drop q)) ∧ Below w1.heap.size w1 wr) (fun iv _ => l.length - (intOf iv).toNat)
  case atStart => exact ⟨0, Nat.zero_le _, rfl, rfl, Below.refl _ _⟩
  case round =>
    obtain ⟨q, hq, rfl, HW, hbr⟩ := hrel
    have hsz := hbr.size
    have hBr : Below w.heap.size w wr := hB1.trans (hbr.mono hz1)
    by_cases hlt : q < l.length
    · have hlt' : ((q : Nat) : Int) < ((l.length : Nat) : Int) := by omega
      obtain ⟨g0, o0, rfl, hcs⟩ : ∃ g o, al = some ⟨g, o, none⟩ ∧ ∀ i (h : i < l.length), w.cell? ⟨g, o + i * 2, none⟩ = some (.int .i64 l[i].1) ∧ w.cell? ⟨g, o + i * 2 + 1, none⟩ = some (.string l[i].2) := by
        rcases HL.out with h | h
        · rw [h] at hlt; simp at hlt
        · exact h
      have d0 := (hBr.cell (p := ⟨g0, o0 + q * 2, none⟩) (World.block_lt_of_cell? _ _ (hcs q hlt).1)).trans (hcs q hlt).1
      have d1 := (hBr.cell (p := ⟨g0, o0 + q * 2 + 1, none⟩) (World.block_lt_of_cell? _ _ (hcs q hlt).2)).trans (hcs q hlt).2
      have HST : Hid (wrongS l = if checkS l[q] ≠ 0 then checkS l[q] else wrongS (l.drop (q + 1))) := by rw [Hid, HW.out, List.drop_eq_getElem_cons hlt, wrongS]
      have HCK := hide (check_any l[q])
      have CA := hbr.alloc hsz (.cells #[.int .i64 l[q].1, .string l[q].2] 36)
      clear hcs
      generalize l[q] = X at *
      obtain ⟨X1, X2⟩ := X
      dsimp only at d0 d1 HCK CA
      have hck : checkS (X1, X2) = 0 := by
        refine Decidable.not_not.1 fun hn => ?_
        have h1 := HST.out
        rw [if_pos hn, HWR.out] at h1
        exact hn h1.symm
      have HW2 : Hid (wrongS l = wrongS (l.drop (q + 1))) := by rw [Hid, HST.out, if_neg (by simp [hck])]
      rw [hck] at HCK
      clear HST hck HWR HW HTOG HP HZ
      go_wp2_with fail
      refine (HCK.out _).mono ?_
      rintro e w5 ⟨rfl, hb5⟩
      have C5 := CA.trans (hb5.mono CA.size)
      clear hb5 CA
      go_wp2_with fail
      go_roundw
      case rel => exact ⟨q + 1, by omega, by go_num, HW2, C5⟩
      case measure => simp [intOf]; omega
    · have hge : ¬ ((q : Nat) : Int) < ((l.length : Nat) : Int) := by omega
      obtain rfl : q = l.length := by omega
      obtain ⟨-, -, x2⟩ := HBX.out wr hbr
      clear HW HWR hlt hq
      go_wp2_with fail
      refine (HTOG.out _ hBr).mono ?_
      rintro e w5 ⟨a', cap, rfl, hT5, hb5⟩
      have HT5 := hide hT5
      have C5 : Below w1.heap.size w1 w5 := hbr.trans (hb5.mono hsz)
      have hsz5 := C5.size
      have hsz5' := hb5.size
      clear hT5 HTOG
      by_cases hk24 : 24 < K.length
      · have hk24' : (24 : Int) < ((K.length : Nat) : Int) := by omega
        have H1 := hide (HP.out.1 hk24)
        clear HP HZ HT5
        obtain ⟨⟨r0, r1, r2, r3, r4⟩, fz, x2⟩ := HBX.out w5 C5
        have fz0 := fz 0
        have fz1 := fz 1
        have fz2 := fz 2
        have fz3 := fz 3
        have fz4 := fz 4
        have hB5 := hB1.trans (C5.mono hz1)
        go_wp2_with fail
        refine bodyPost_ret (v := .tuple #[.agg #[.int .i64 0, .string ⟨#[]⟩, .slice none 0 0, .slice none 0 0, .slice none 0 0], .int .i64 0, .int .i64 2]) (by simp [results, Tryz.results4, go_sem, r0, r1, r2, r3, r4]) rfl ⟨_, by rw [H1.out.1, H1.out.2.1], by rw [H1.out.2.2]; exact fun w'' _ => zero_is w'', ?_⟩
        go_grown
      · have hk24' : ¬ (24 : Int) < ((K.length : Nat) : Int) := by omega
        by_cases hl0 : l.length = 0
        · have H1 := hide (HP.out.2.1 hk24 hl0)
          have hl0' : ((l.length : Nat) : Int) = 0 := by omega
          clear HP HZ HT5
          obtain ⟨⟨r0, r1, r2, r3, r4⟩, fz, x2⟩ := HBX.out w5 C5
          have fz0 := fz 0
          have fz1 := fz 1
          have fz2 := fz 2
          have fz3 := fz 3
          have fz4 := fz 4
          have hB5 := hB1.trans (C5.mono hz1)
          go_wp2_with fail
          refine bodyPost_ret (v := .tuple #[.agg #[.int .i64 0, .string ⟨#[]⟩, .slice none 0 0, .slice none 0 0, .slice none 0 0], .int .i64 0, .int .i64 1]) (by simp [results, Tryz.results4, go_sem, r0, r1, r2, r3, r4]) rfl ⟨_, by rw [H1.out.1, H1.out.2.1], by rw [H1.out.2.2]; exact fun w'' _ => zero_is w'', ?_⟩
          go_grown
        · have H1 := hide (HP.out.2.2 hk24 hl0)
          have hl0' : ¬ ((l.length : Nat) : Int) = 0 := by omega
          clear HP
          obtain ⟨fk, fa, fn, fc, ho, hi⟩ := scoreOf_item (p := fun W' => ∀ g o u, wr.heap.size ≤ g → w5.cell? ⟨g, o, none⟩ = some u → W'.cell? ⟨g, o, none⟩ = some u) (cp := cap) (fun W' hW' => HT5.out W' hW') HZ.out (by omega)
          have HO := hide ho
          have HI := hide hi
          clear ho hi HT5 HZ
          obtain ⟨-, -, x2'⟩ := HBX.out w5 C5
          have hbd : Below w1.heap.size w1 w5.drew := C5.drew
          have nn1 : w5.heap.size ≠ w.heap.size + 1 := by omega
          have nn2 : w.heap.size + 1 ≠ w5.heap.size := by omega
          have nn3 : w.heap.size ≠ w.heap.size + 1 := by omega
          have nn4 : w.heap.size + 1 ≠ w.heap.size := by omega
          have nn5 : ¬ w.heap.size = w.heap.size + 1 := by omega
          have hwr := wrap_small (((K.length : Nat) : Int) - ((n3 : Nat) : Int)) (by omega) (by omega)
          go_wp2_with fail
          go_region_held3 (fun w' => w'.cell? ⟨w.heap.size, 4, none⟩ = some (.slice a3 n3 c3)) (go_keep)
            ((go_at_call 22; refine (HO.out _).mono ?_; rintro e w9 ⟨rfl, hb9⟩; have hb9' : Below w1.heap.size w1 w9 := hbd.trans (hb9.mono hsz5); obtain ⟨⟨b0, b1, b2, b3, b4⟩, fz, x3⟩ := HBX.out w9 hb9'; have fz0 := fz 0; have fz1 := fz 1; have fz2 := fz 2; have fz3 := fz 3; have fz4 := fz 4))
          all_goals
            go_wp2_with fail
            refine bodyPost_ret (v := .tuple #[.agg #[.int .i64 fk, .string ⟨#[]⟩, .slice none 0 0, .slice none 0 0, .slice fa fn fc], .int .i64 (((K.length : Nat) : Int) - ((n3 : Nat) : Int)), .int .i64 0]) (by simp [results, Tryz.results4, go_sem, b0, b1, b2, b3, b4]) rfl ⟨_, by rw [H1.out.1, H1.out.2.1], ?_, ?_⟩
            · rw [H1.out.2.2]
              exact fun w'' hw => HI.out w'' (fun g' o' u' hg hu => hw g' o' u' (by omega) ((five_apart w9 (w.heap.size + 1) _ _ _ _ _ g' o' (by omega)).trans ((hb9.cell (p := ⟨g', o', none⟩) (World.block_lt_of_cell? w5 _ hu)).trans hu)))
            · have hb9'' := hB1.trans (hb9'.mono hz1)
              go_grown
theorem scorePut_any (v : Value) (x : Itm) (al : Option Addr) (cl : Nat) (l : List Sc) (w : World) (h : ItemIs w v x) (hl : ScoresAt w al l) (hll : l.length ≤ 1400000) :
    Calls Tryz.prog 4 #[v, .slice al l.length cl] w fun e w' => ∃ u, e = .returned (.tuple #[u, .int .i64 (putN x l), .int .i64 (putE x l)]) ∧ ItemFrom w.heap.size w' u (putI x l) ∧ Below w.heap.size w w' := by
  by_cases h0 : asI x 5 = 0
  · by_cases h1 : wrongS l = 0
    · exact scorePut_right v x al cl l w h hl hll h0 h1
    · exact scorePut_wrong v x al cl l w h hl hll (.inr h1)
  · exact scorePut_wrong v x al cl l w h hl hll (.inl h0)
end Go.Proofs.YtnobcdhlagfhmaaGreat.Z
