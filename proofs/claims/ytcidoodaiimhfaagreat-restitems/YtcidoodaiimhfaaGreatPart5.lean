/- Part 5 of what the proof leans on: ZGet, ZPut, ZDrop, ZRank, ZTx, ZRng, ZBeg, ShelfS, RKin, ShelfD, Set2, Set3, Set4, Set5. -/
import Derived.Test.YtcidoodaiimhfaaGreatPart4
import Derived.Test.YtcidoodaiimhfaaGreatPart1
import Derived.Test.YtcidoodaiimhfaaGreatPart3
import Derived.Shelf.SlicesQ.IndexFunc
import Derived.Handy
import Derived.BigRegion
import Derived.Deep.RegionHeld3
import Derived.Laws.IdiomCopy
import Derived.Laws.OwnMore
import Derived.Shelf.Sort.Plain
import Derived.Shelf.Slices.Turned
import Derived.Shelf.Slices.CompactS
import Derived.Shelf.Slices.Cells
import Derived.Shelf.Slices.In.SortNone
import Derived.Test.YtcidoodaiimhfaaGreatProg
import Derived.Shelf.SlGeneric
import Derived.Shelf.SlicesE.DeleteFunc
import Derived.Test.YtcidoodaiimhfaaGreatPart2
import Derived.Lib.SlicesS
import Derived.Sort.OwnSorted
import Derived.Deep.AppendLies
/- WALK of scores: where one stands; what an item of scores has. -/
namespace Go.Proofs.YtcidoodaiimhfaaGreat.Z
open Go.RowKit Go.Maps Go.Shelf

/-- where the first one stands that is asked for; -1, if there is none -/
def idxF (p : Sc → Bool) : List Sc → Int
  | [] => -1
  | x :: r => if p x = true then 0 else if idxF p r < 0 then -1 else idxF p r + 1
theorem idxF_lo (p : Sc → Bool) (l : List Sc) : -1 ≤ idxF p l := by
  induction l with
  | nil => simp [idxF]
  | cons x r ih => rw [idxF]; split <;> try split
                   all_goals omega
theorem idxF_hi (p : Sc → Bool) (l : List Sc) : idxF p l < l.length := by
  induction l with
  | nil => simp [idxF]
  | cons x r ih => rw [idxF, List.length_cons]; split <;> try split
                   all_goals omega
theorem idxF_none {p : Sc → Bool} {l : List Sc} (h : idxF p l < 0) : ∀ x ∈ l, p x = false := by
  induction l with
  | nil => intro x hx; cases hx
  | cons a r ih =>
    rw [idxF] at h
    split at h
    · omega
    · rename_i ha
      split at h
      · rename_i hr
        intro x hx
        rcases List.mem_cons.1 hx with e | hx
        · rw [e]; simpa using ha
        · exact ih hr x hx
      · omega
theorem idxF_at {p : Sc → Bool} {l : List Sc} {i : Nat} (h : idxF p l = i) : ∃ hi : i < l.length, p l[i] = true ∧ ∀ j (hj : j < i), p (l[j]'(by omega)) = false := by
  induction l generalizing i with
  | nil => simp [idxF] at h
  | cons a r ih =>
    rw [idxF] at h
    split at h
    · rename_i ha
      obtain rfl : i = 0 := by omega
      exact ⟨by simp, ha, fun j hj => absurd hj (by omega)⟩
    · rename_i ha
      split at h
      · omega
      · obtain ⟨k, hk⟩ : ∃ k : Nat, idxF p r = k := ⟨(idxF p r).toNat, by omega⟩
        obtain rfl : i = k + 1 := by omega
        obtain ⟨h1, h2, h3⟩ := ih hk
        refine ⟨by simp; omega, by simpa using h2, fun j hj => ?_⟩
        cases j with
        | zero => simpa using ha
        | succ j => simpa using h3 j (by omega)
theorem idxByFrom_idxF (p : Sc → Bool) (d : Sc) (l : List Sc) : ∀ i : Nat, Lib.idxByFrom (fun _ y => p y) d l i = if idxF p l < 0 then -1 else idxF p l + i := by
  induction l with
  | nil => intro i; simp [Lib.idxByFrom, idxF]
  | cons x r ih =>
    intro i
    rw [Lib.idxByFrom, idxF]
    by_cases hx : p x = true
    · rw [if_pos hx, if_pos hx]
      simp
    · rw [if_neg hx, if_neg hx, ih (i + 1)]
      have := idxF_lo p r
      by_cases h0 : idxF p r < 0
      · rw [if_pos h0, if_pos h0]; simp
      · rw [if_neg h0, if_neg h0, if_neg (by omega)]
        omega
theorem idxBy_idxF (p : Sc → Bool) (l : List Sc) (d : Sc) : Lib.idxBy (fun _ y => p y) l d = idxF p l := by
  rw [Lib.idxBy, idxByFrom_idxF]
  have := idxF_lo p l
  split <;> omega
set_option maxRecDepth 100000 in
theorem idxP_none (a : Option Addr) (cap : Nat) (fv : Value) (w : World) : Calls Tryz.prog 150 #[.slice a 0 cap, fv] w fun e w' => e = .returned (.int .i64 (-1)) ∧ w' = w := by
  go_enter Tryz.func150, Tryz.ntmps150
  go_wp2_with fail
  refine wp_loop_rounds 1 ?_
  rw [rounds_succ]
  go_wp2_with fail
  go_ret
  exact ⟨rfl, rfl⟩
theorem idxP_any (gf : Nat) (lb : Array Value) (eg : ∀ args w, (callFunc gf args).run Tryz.prog w = .ok (.enter gf args) w) (p : Sc → Bool) (a : Option Addr) (cap : Nat) (ts : List Sc) (w : World) (hs : ScoresAt w a ts) (hn : ts.length ≤ 2000000)
    (hp : ∀ W x, Below w.heap.size w W → Calls Tryz.prog gf (#[encPr x] ++ lb) W fun e w' => e = .returned (.bool (p x)) ∧ Below w.heap.size w w') :
    Calls Tryz.prog 150 #[.slice a ts.length cap, .func (.func gf) #[] lb] w fun e w' => e = .returned (.int .i64 (idxF p ts)) ∧ Below w.heap.size w w' := by
  rcases hs with rfl | ⟨g, o, rfl, hc⟩
  · exact (idxP_none a cap _ w).mono fun e w' ⟨h1, h2⟩ => ⟨h1, h2 ▸ Below.refl _ _⟩
  · by_cases h0 : ts = []
    · subst h0
      exact (idxP_none _ cap _ w).mono fun e w' ⟨h1, h2⟩ => ⟨h1, h2 ▸ Below.refl _ _⟩
    · have hpos : 0 < ts.length := List.length_pos_iff.2 h0
      have hb : g < w.heap.size := World.block_lt_of_cell? _ _ (hc 0 hpos).1
      have hh := AnyQ.slices_IndexFunc Tryz.layIdxScore 2 isAggP sizeOfP encL (fun _ => rfl) p gf lb eg g o ts.length cap ts w hp (Nat.le_refl _) (by omega) hb (fun j hj i v hv => by
        obtain ⟨d0, d1⟩ := hc j hj
        have e : ts[j]! = ts[j] := by simp [hj]
        rw [e] at hv
        match i, hv with
        | 0, hv => simp [encL] at hv; subst hv; exact d0
        | 1, hv => simp [encL] at hv; subst hv; exact d1)
      rw [List.take_length, idxBy_idxF] at hh
      exact hh
theorem beq_fd (a b : ByteArray) : (a.toList == b.toList) = decide (a = b) := by
  rw [Bool.eq_iff_iff]
  simp only [beq_iff_eq, decide_eq_true_eq]
  exact ⟨bytes_inj, fun e => by rw [e]⟩
/-- is it of this member? -/
def memIs (f : ByteArray) (p : Sc) : Bool := decide (p.2 = f)
set_option maxRecDepth 100000 in
theorem rankFn_any (b : Nat) (f : ByteArray) (x : Sc) (W : World) (hc : W.cell? ⟨b, 0, none⟩ = some (.string f)) : Calls Tryz.prog 151 #[.agg #[.int .i64 x.1, .string x.2], .pointer (some ⟨b, 0, none⟩)] W fun e w' => e = .returned (.bool (memIs f x)) ∧ Below W.heap.size W w' := by
  have hbl := World.block_lt_of_cell? _ _ hc
  have hc2 : (W.alloc (.cells #[.int .i64 x.1, .string x.2] 89)).cell? ⟨b, 0, none⟩ = some (.string f) := (((Below.refl _ W).alloc (Nat.le_refl _) _).cell (p := ⟨b, 0, none⟩) hbl).trans hc
  have hbq := beq_fd x.2 f
  unfold memIs
  go_enter Tryz.func151, Tryz.ntmps151
  go_wp2_with fail
  go_ret
  exact ⟨by rw [← hbq]; rfl, (Below.refl _ W).alloc (Nat.le_refl _) _⟩
theorem risesS_of_riseTo {l : List Sc} (h : riseTo cmpS l l.length = true) : RisesS l := by
  have hadj : ∀ j, j + 1 < l.length → lessS l[j]! l[j + 1]! := fun j hj => by
    rw [riseTo, List.all_eq_true] at h
    have := h j (List.mem_range.2 (by omega))
    simp only [decide_eq_true_eq] at this
    exact (cmpS_lt _ _).1 this
  have hfar : ∀ d i, i + d + 1 < l.length → lessS l[i]! l[i + d + 1]! := fun d => by
    induction d with
    | zero => exact fun i hi => hadj i hi
    | succ d ih => exact fun i hi => lessS_trans (ih i (by omega)) (hadj (i + d + 1) (by omega))
  rw [RisesS, List.pairwise_iff_getElem]
  intro i j hi hj hij
  have := hfar (j - i - 1) i (by omega)
  rw [show i + (j - i - 1) + 1 = j by omega] at this
  simpa [hi, hj] using this
theorem once_of_nodup {l : List Sc} (h : (l.map Prod.snd).Nodup) : OnceS l := by
  induction l with
  | nil => intro p hp; cases hp
  | cons a r ih =>
    rw [List.map_cons, List.nodup_cons] at h
    intro p hp q hq e
    rcases List.mem_cons.1 hp with h1 | h1
    · rcases List.mem_cons.1 hq with h2 | h2
      · rw [h1, h2]
      · exact absurd (List.mem_map.2 ⟨q, h2, by rw [← e, h1]⟩) h.1
    · rcases List.mem_cons.1 hq with h2 | h2
      · exact absurd (List.mem_map.2 ⟨p, h1, by rw [e, h2]⟩) h.1
      · exact ih h.2 p h1 q h2 e
/-- what an item of scores has -/
structure AsScore (x : Itm) : Prop where
  r : RisesS x.s
  o : OnceS x.s
  n : x.s.length ≤ 24
  z : ∀ p ∈ x.s, p.2.size ≤ 60
  b : ∀ p ∈ x.s, -999999999 ≤ p.1 ∧ p.1 ≤ 999999999
theorem asI_score {x : Itm} (h : asI x 5 = 0) : AsScore x := by
  unfold asI at h
  split at h
  · rename_i hn
    unfold Itm.isNone at hn
    rw [decide_eq_true_eq] at hn
    have e : x.s = [] := hn.2.2.2.2
    exact ⟨by rw [e]; exact List.Pairwise.nil, fun p hp => (by rw [e] at hp; cases hp), by rw [e]; simp, by rw [e]; simp, by rw [e]; simp⟩
  · split at h
    · rename_i h1; exact absurd h h1
    · rename_i h1
      have h1 : chkI x = 0 := by simpa using h1
      split at h
      · cases h
      · rename_i hk
        have hk : x.k = 5 := by simpa using hk
        have R := right_of h1
        unfold chkI at h1
        rw [if_neg (by omega)] at h1
        split at h1
        · cases h1
        · rw [if_neg (by omega), if_neg (by omega), if_neg (by omega)] at h1
          try rw [if_pos hk] at h1
          unfold scoreT at h1
          split at h1
          · rename_i h2; exact absurd h1 h2
          · split at h1
            · cases h1
            · split at h1
              · cases h1
              · rename_i h4
                split at h1
                · rename_i h3
                  refine ⟨risesS_of_riseTo h3, once_of_nodup ?_, R.sn, R.sz, R.sr⟩
                  unfold twiceS at h4
                  simpa using h4
                · cases h1
end Go.Proofs.YtcidoodaiimhfaaGreat.Z

/- WALK of scores: Put. -/
namespace Go.Proofs.YtcidoodaiimhfaaGreat.Z
open Go.RowKit

/-- what is wrong with a score -/
def checkS (p : Sc) : Int := if ¬ (-999999999 ≤ p.1 ∧ p.1 ≤ 999999999) then 3 else if longT p.2 = true then 2 else 0
/-- .. with the first one that has something wrong -/
def wrongS : List Sc → Int
  | [] => 0
  | p :: r => if checkS p ≠ 0 then checkS p else wrongS r
theorem wrongS_zero {l : List Sc} (h : wrongS l = 0) : ∀ p ∈ l, checkS p = 0 := by
  induction l with
  | nil => intro p hp; cases hp
  | cons a r ih =>
    rw [wrongS] at h
    split at h
    · rename_i h1; exact absurd h h1
    · rename_i h1
      intro p hp
      rcases List.mem_cons.1 hp with e | hp
      · rw [e]; simpa using h1
      · exact ih h p hp
theorem longZ_below (t : ByteArray) (w : World) : Calls Tryz.prog 87 #[.string t] w fun e w' => e = .returned (.bool (longT t)) ∧ w' = w := by
  have h : decide ((60 : Int) < ((t.size : Nat) : Int)) = longT t := by unfold longT; simp; omega
  go_enter Tryz.func87, Tryz.ntmps87
  go_wp2_with fail
  go_ret
  exact ⟨by rw [← h]; rfl, rfl⟩
theorem mayZ_any (n : Int) (w : World) : Calls Tryz.prog 164 #[.int .i64 n] w fun e w' => e = .returned (.bool (decide (-999999999 ≤ n ∧ n ≤ 999999999))) ∧ w' = w := by
  by_cases h1 : -999999999 ≤ n
  · have hv : decide (-999999999 ≤ n ∧ n ≤ 999999999) = decide (n ≤ 999999999) := by simp [h1]
    rw [hv]
    clear hv
    go_enter Tryz.func164, Tryz.ntmps164
    go_wp2_with fail
    go_ret
    exact ⟨rfl, rfl⟩
  · have hv : decide (-999999999 ≤ n ∧ n ≤ 999999999) = false := by simp [h1]
    rw [hv]
    clear hv
    go_enter Tryz.func164, Tryz.ntmps164
    go_wp2_with fail
    go_ret
    exact ⟨rfl, rfl⟩
set_option maxRecDepth 100000 in
theorem check_any (p : Sc) (w : World) : Calls Tryz.prog 112 #[.agg #[.int .i64 p.1, .string p.2]] w fun e w' => e = .returned (.int .i64 (checkS p)) ∧ Below w.heap.size w w' := by
  unfold checkS
  obtain ⟨X1, X2⟩ := p
  have HM : Hid (∀ W, Calls Tryz.prog 164 #[.int .i64 X1] W fun e w' => e = .returned (.bool (decide (-999999999 ≤ X1 ∧ X1 ≤ 999999999))) ∧ w' = W) := fun W => mayZ_any X1 W
  have HO : Hid (∀ W, Calls Tryz.prog 87 #[.string X2] W fun e w' => e = .returned (.bool (longT X2)) ∧ w' = W) := fun W => longZ_below X2 W
  dsimp only
  by_cases h1 : -999999999 ≤ X1 ∧ X1 ≤ 999999999
  · rw [if_neg (by simp; exact h1)]
    rw [decide_eq_true h1] at HM
    clear h1
    cases h2 : longT X2 with
    | true =>
      rw [if_pos rfl]
      rw [h2] at HO
      clear h2
      go_enter Tryz.func112, Tryz.ntmps112
      go_wp2_with fail
      refine (HM.out _).mono ?_
      rintro e w1 ⟨rfl, rfl⟩
      go_wp2_with fail
      refine (HO.out _).mono ?_
      rintro e w1 ⟨rfl, rfl⟩
      go_wp2_with fail
      go_ret
      exact ⟨rfl, (Below.refl _ w).alloc (Nat.le_refl _) _⟩
    | false =>
      rw [if_neg (by decide)]
      rw [h2] at HO
      clear h2
      go_enter Tryz.func112, Tryz.ntmps112
      go_wp2_with fail
      refine (HM.out _).mono ?_
      rintro e w1 ⟨rfl, rfl⟩
      go_wp2_with fail
      refine (HO.out _).mono ?_
      rintro e w1 ⟨rfl, rfl⟩
      go_wp2_with fail
      go_ret
      exact ⟨rfl, (Below.refl _ w).alloc (Nat.le_refl _) _⟩
  · rw [if_pos h1]
    rw [decide_eq_false h1] at HM
    clear h1
    go_enter Tryz.func112, Tryz.ntmps112
    go_wp2_with fail
    refine (HM.out _).mono ?_
    rintro e w1 ⟨rfl, rfl⟩
    go_wp2_with fail
    go_ret
    exact ⟨rfl, (Below.refl _ w).alloc (Nat.le_refl _) _⟩
/-- scores as an item: nothing, if there are none -/
def kindS (l : List Sc) : Itm := if l = [] then Itm.none else ⟨5, ⟨#[]⟩, [], [], l⟩
set_option maxRecDepth 100000 in
set_option maxHeartbeats 1000000 in
theorem scoreOf_any (a : Option Addr) (n cap : Nat) (w : World) (hn : n ≤ 281474976710656) :
    Calls Tryz.prog 114 #[.slice a n cap] w fun e w' => e = .returned (if n = 0 then .agg #[.int .i64 0, .string ⟨#[]⟩, .slice none 0 0, .slice none 0 0, .slice none 0 0] else .agg #[.int .i64 5, .string ⟨#[]⟩, .slice none 0 0, .slice none 0 0, .slice a n cap]) ∧ Below w.heap.size w w' := by
  by_cases h0 : n = 0
  · subst h0
    go_enter Tryz.func114, Tryz.ntmps114
    go_wp2_with fail
    refine bodyPost_ret (v := .agg #[.int .i64 0, .string ⟨#[]⟩, .slice none 0 0, .slice none 0 0, .slice none 0 0]) (by simp [results, Tryz.results114, go_sem]) rfl ⟨rfl, ?_⟩
    go_grown
  · have h0' : ¬ ((n : Nat) : Int) = 0 := by omega
    rw [if_neg h0]
    go_enter Tryz.func114, Tryz.ntmps114
    go_wp2_with fail
    refine bodyPost_ret (v := .agg #[.int .i64 5, .string ⟨#[]⟩, .slice none 0 0, .slice none 0 0, .slice a n cap]) (by simp [results, Tryz.results114, go_sem]) rfl ⟨rfl, ?_⟩
    go_grown
theorem scoreOf_item {p : World → Prop} {ao : Option Addr} {cp : Nat} {K : List Sc} (hT : ∀ W, p W → ScoresAt W ao K) (hz : ∀ t ∈ K, t.2.size ≤ maxLen) (hl : K.length ≤ 281474976710656) :
    ∃ (fk : Int) (fa : Option Addr) (fn fc : Nat), (∀ W, Calls Tryz.prog 114 #[.slice ao K.length cp] W fun e w' => e = .returned (.agg #[.int .i64 fk, .string ⟨#[]⟩, .slice none 0 0, .slice none 0 0, .slice fa fn fc]) ∧ Below W.heap.size W w') ∧ ∀ W, p W → ItemIs W (.agg #[.int .i64 fk, .string ⟨#[]⟩, .slice none 0 0, .slice none 0 0, .slice fa fn fc]) (kindS K) := by
  by_cases h0 : K = []
  · subst h0
    refine ⟨0, none, 0, 0, fun W => ?_, fun w' _ => zero_is w'⟩
    have := scoreOf_any ao 0 cp W (by omega)
    rw [if_pos rfl] at this
    exact this
  · refine ⟨5, ao, K.length, cp, fun W => ?_, fun w' hw => ?_⟩
    · have := scoreOf_any ao K.length cp W hl
      rw [if_neg (fun e => h0 (List.eq_nil_of_length_eq_zero e))] at this
      exact this
    · rw [kindS, if_neg h0]
      exact ⟨⟨none, 0, none, 0, ao, cp, rfl, .inl rfl, .inl rfl, hT w' hw⟩, (show (0 : Nat) ≤ maxLen by simp), by simp, by simp, hz, by simp, by simp, hl⟩
/-- what Put answers -/
def putE (x : Itm) (l : List Sc) : Int := if asI x 5 ≠ 0 then asI x 5 else if wrongS l ≠ 0 then wrongS l else if 24 < (togS x.s l).length then 2 else if l = [] then 1 else 0
def putI (x : Itm) (l : List Sc) : Itm := if putE x l = 0 then kindS (togS x.s l) else Itm.none
def putN (x : Itm) (l : List Sc) : Int := if putE x l = 0 then (((togS x.s l).length : Nat) : Int) - ((x.s.length : Nat) : Int) else 0
set_option maxRecDepth 100000 in
set_option maxHeartbeats 4000000 in
theorem scorePut_wrong (v : Value) (x : Itm) (al : Option Addr) (cl : Nat) (l : List Sc) (w : World) (h : ItemIs w v x) (hl : ScoresAt w al l) (hll : l.length ≤ 1400000) (hw : asI x 5 ≠ 0 ∨ wrongS l ≠ 0) :
    Calls Tryz.prog 44 #[v, .slice al l.length cl] w fun e w' => ∃ u, e = .returned (.tuple #[u, .int .i64 (putN x l), .int .i64 (putE x l)]) ∧ ItemOwn w.heap.size w' u (putI x l) ∧ Below w.heap.size w w' := by
  have HC : Hid (∀ W, Below w.heap.size w W → Calls Tryz.prog 85 #[v, .int .i64 5] W fun e w' => e = .returned (.int .i64 (asI x 5)) ∧ Below W.heap.size W w') := fun W hW => common_any v x 5 W (h.below hW)
  obtain ⟨⟨a1, c1, a2, c2, a3, c3, rfl, -, -, -⟩, -, -, -, -, -, -, -⟩ := h
  have HL := hide hl
  clear hl
  by_cases h0 : asI x 5 = 0
  · have hwr : wrongS l ≠ 0 := hw.resolve_left (by simp [h0])
    have hE : putE x l = wrongS l := by rw [putE, if_neg (by simp [h0]), if_pos hwr]
    rw [putN, putI, hE, if_neg hwr, if_neg hwr]
    rw [h0] at HC
    have HWR := hide hwr
    clear hE h0 hw hwr
    generalize hWE : wrongS l = WE at HWR ⊢
    have HWE := hide hWE
    clear hWE
    generalize x.s.length = n3 at *
    generalize x.l.length = n1 at *
    generalize x.t = t at *
    generalize x.k = k at *
    generalize x.p.length = n2 at *
    go_enter Tryz.func44, Tryz.ntmps44
    go_wp2_with fail
    refine (HC.out _ (((Below.refl _ w).alloc (Nat.le_refl _) _).alloc (by simp) _)).mono ?_
    rintro e w1 ⟨rfl, hb1⟩
    obtain ⟨hc, hf⟩ := bcell hb1
    have hz : w.heap.size + 1 < w1.heap.size := by have := hb1.size; simp at this; omega
    have hy : w.heap.size < w1.heap.size := by omega
    have hB1 : Below w.heap.size w w1 := (((Below.refl _ w).alloc (Nat.le_refl _) _).alloc (by simp) _).trans (hb1.mono (by simp; omega))
    have HBX : Hid (∀ W, Below w1.heap.size w1 W → (W.cell? ⟨w.heap.size + 1, 0, none⟩ = some (.int .i64 0) ∧ W.cell? ⟨w.heap.size + 1, 1, none⟩ = some (.string ⟨#[]⟩) ∧ W.cell? ⟨w.heap.size + 1, 2, none⟩ = some (.slice none 0 0) ∧ W.cell? ⟨w.heap.size + 1, 3, none⟩ = some (.slice none 0 0) ∧ W.cell? ⟨w.heap.size + 1, 4, none⟩ = some (.slice none 0 0)) ∧ (∀ j, W.frozen? ⟨w.heap.size + 1, j, none⟩ = false) ∧ W.cell? ⟨w.heap.size, 4, none⟩ = some (.slice a3 n3 c3)) := fun W hW =>
      ⟨⟨(hW.cell (p := ⟨w.heap.size + 1, 0, none⟩) hz).trans ((hc _ _ (by simp)).trans (by simp [go_sem])), (hW.cell (p := ⟨w.heap.size + 1, 1, none⟩) hz).trans ((hc _ _ (by simp)).trans (by simp [go_sem])), (hW.cell (p := ⟨w.heap.size + 1, 2, none⟩) hz).trans ((hc _ _ (by simp)).trans (by simp [go_sem])), (hW.cell (p := ⟨w.heap.size + 1, 3, none⟩) hz).trans ((hc _ _ (by simp)).trans (by simp [go_sem])), (hW.cell (p := ⟨w.heap.size + 1, 4, none⟩) hz).trans ((hc _ _ (by simp)).trans (by simp [go_sem]))⟩, fun j => (hW.frozen (p := ⟨w.heap.size + 1, j, none⟩) hz).trans ((hf _ _ (by simp)).trans (by simp [go_sem])), (hW.cell (p := ⟨w.heap.size, 4, none⟩) hy).trans ((hc _ _ (by simp; omega)).trans (by simp [go_sem]))⟩
    have hz1 := hB1.size
    clear hc hf hb1 HC
    go_wp2_with fail
    go_loopw [20] (fun iv wr => ∃ q : Nat, q ≤ l.length ∧ iv = .int .i64 q ∧ Hid (wrongS l = wrongS (l.drop q)) ∧ Below w1.heap.size w1 wr) (fun iv _ => l.length - (intOf iv).toNat)
    case atStart => exact ⟨0, Nat.zero_le _, rfl, rfl, Below.refl _ _⟩
    case round =>
      obtain ⟨q, hq, rfl, HW, hbr⟩ := hrel
      have hsz := hbr.size
      have hBr : Below w.heap.size w wr := hB1.trans (hbr.mono hz1)
      have hlt : q < l.length := by
        refine Decidable.not_not.1 fun hn => HWR.out ?_
        rw [← HWE.out, HW.out, List.drop_eq_nil_of_le (by omega)]
        rfl
      have hlt' : ((q : Nat) : Int) < ((l.length : Nat) : Int) := by omega
      obtain ⟨g0, o0, rfl, hcs⟩ : ∃ g o, al = some ⟨g, o, none⟩ ∧ ∀ i (h : i < l.length), w.cell? ⟨g, o + i * 2, none⟩ = some (.int .i64 l[i].1) ∧ w.cell? ⟨g, o + i * 2 + 1, none⟩ = some (.string l[i].2) := by
        rcases HL.out with h | h
        · rw [h] at hlt; simp at hlt
        · exact h
      have d0 := (hBr.cell (p := ⟨g0, o0 + q * 2, none⟩) (World.block_lt_of_cell? _ _ (hcs q hlt).1)).trans (hcs q hlt).1
      have d1 := (hBr.cell (p := ⟨g0, o0 + q * 2 + 1, none⟩) (World.block_lt_of_cell? _ _ (hcs q hlt).2)).trans (hcs q hlt).2
      have HST : Hid (wrongS l = if checkS l[q] ≠ 0 then checkS l[q] else wrongS (l.drop (q + 1))) := by rw [Hid, HW.out, List.drop_eq_getElem_cons hlt, wrongS]
      have HCK := hide (check_any l[q])
      have CA := hbr.alloc hsz (.cells #[.int .i64 l[q].1, .string l[q].2] 89)
      clear hcs
      generalize l[q] = X at *
      obtain ⟨X1, X2⟩ := X
      dsimp only at d0 d1 HCK CA
      by_cases hck : checkS (X1, X2) = 0
      · have HW2 : Hid (wrongS l = wrongS (l.drop (q + 1))) := by rw [Hid, HST.out, if_neg (by simp [hck])]
        rw [hck] at HCK
        clear HST hck HWR HWE HW
        go_wp2_with fail
        refine (HCK.out _).mono ?_
        rintro e w5 ⟨rfl, hb5⟩
        have C5 := CA.trans (hb5.mono CA.size)
        clear hb5 CA
        go_wp2_with fail
        go_roundw
        case rel => exact ⟨q + 1, by omega, by go_num, HW2, C5⟩
        case measure => simp [intOf]; omega
      · have HW2 : Hid (checkS (X1, X2) = WE) := by rw [Hid, ← HWE.out, HST.out, if_pos hck]
        have hck' : (checkS (X1, X2) == 0) = false := by rw [beq_eq_false_iff_ne]; exact hck
        rw [HW2.out] at HCK hck'
        clear HST hck HWR HWE HW HW2
        go_wp2_with fail
        refine (HCK.out _).mono ?_
        rintro e w5 ⟨rfl, hb5⟩
        have C5 := CA.trans (hb5.mono CA.size)
        clear hb5 CA
        obtain ⟨⟨r0, r1, r2, r3, r4⟩, fz, x2⟩ := HBX.out w5 C5
        have fz0 := fz 0
        have fz1 := fz 1
        have fz2 := fz 2
        have fz3 := fz 3
        have fz4 := fz 4
        have hB5 := hB1.trans (C5.mono hz1)
        go_wp2_with fail
        refine bodyPost_ret (v := .tuple #[.agg #[.int .i64 0, .string ⟨#[]⟩, .slice none 0 0, .slice none 0 0, .slice none 0 0], .int .i64 0, .int .i64 WE]) (by simp [results, Tryz.results44, go_sem, r0, r1, r2, r3, r4]) rfl ⟨_, rfl, fun w'' _ => zero_is w'', ?_⟩
        go_grown
  · have hE : putE x l = asI x 5 := by rw [putE, if_pos h0]
    rw [putN, putI, hE, if_neg h0, if_neg h0]
    have h0' : (asI x 5 == 0) = false := by rw [beq_eq_false_iff_ne]; exact h0
    clear hE hw
    generalize asI x 5 = E at *
    generalize x.s.length = n3 at *
    generalize x.l.length = n1 at *
    generalize x.t = t at *
    generalize x.k = k at *
    generalize x.p.length = n2 at *
    go_enter Tryz.func44, Tryz.ntmps44
    go_wp2_with fail
    refine (HC.out _ (((Below.refl _ w).alloc (Nat.le_refl _) _).alloc (by simp) _)).mono ?_
    rintro e w1 ⟨rfl, hb1⟩
    obtain ⟨hc, hf⟩ := bcell hb1
    have hz : w.heap.size + 1 < w1.heap.size := by have := hb1.size; simp at this; omega
    have hy : w.heap.size < w1.heap.size := by omega
    have hB1 : Below w.heap.size w w1 := (((Below.refl _ w).alloc (Nat.le_refl _) _).alloc (by simp) _).trans (hb1.mono (by simp; omega))
    go_wp2_with fail
    refine bodyPost_ret (v := .tuple #[.agg #[.int .i64 0, .string ⟨#[]⟩, .slice none 0 0, .slice none 0 0, .slice none 0 0], .int .i64 0, .int .i64 E]) (by simp [results, Tryz.results44, go_sem, hc]) rfl ⟨_, rfl, fun w'' _ => zero_is w'', ?_⟩
    go_grown
theorem checkS_ok {p : Sc} (h : checkS p = 0) : -999999999 ≤ p.1 ∧ p.1 ≤ 999999999 ∧ p.2.size ≤ 60 := by
  unfold checkS at h
  split at h
  · cases h
  · rename_i h1
    split at h
    · cases h
    · rename_i h2
      have h3 : longT p.2 = false := by simpa using h2
      unfold longT at h3
      rw [decide_eq_false_iff_not] at h3
      have := Decidable.not_not.1 h1
      exact ⟨this.1, this.2, by omega⟩
set_option maxRecDepth 100000 in
set_option maxHeartbeats 8000000 in
theorem scorePut_right (v : Value) (x : Itm) (al : Option Addr) (cl : Nat) (l : List Sc) (w : World) (h : ItemIs w v x) (hl : ScoresAt w al l) (hll : l.length ≤ 1400000) (h0 : asI x 5 = 0) (hwr : wrongS l = 0) :
    Calls Tryz.prog 44 #[v, .slice al l.length cl] w fun e w' => ∃ u, e = .returned (.tuple #[u, .int .i64 (putN x l), .int .i64 (putE x l)]) ∧ ItemOwn w.heap.size w' u (putI x l) ∧ Below w.heap.size w w' := by
  have HC : Hid (∀ W, Below w.heap.size w W → Calls Tryz.prog 85 #[v, .int .i64 5] W fun e w' => e = .returned (.int .i64 (asI x 5)) ∧ Below W.heap.size W w') := fun W hW => common_any v x 5 W (h.below hW)
  obtain ⟨⟨a1, c1, a2, c2, a3, c3, rfl, -, -, hx3⟩, -, -, -, sz, -, -, -⟩ := h
  have AS := asI_score h0
  have h24 := AS.n
  have HL := hide hl
  have HX := hide hx3
  have HTOG : Hid (∀ W, Below w.heap.size w W → Calls Tryz.prog 113 #[.slice a3 x.s.length c3, .slice al l.length cl] W fun e w' => ∃ a cap, e = .returned (.slice a (togS x.s l).length cap) ∧ PairsFrom W.heap.size w' a (togS x.s l) ∧ Below W.heap.size W w') := fun W hW => together_any a3 al c3 cl x.s l W (HX.out.below hW) (HL.out.below hW) (by omega) AS.r AS.o (fun p hp => by
    rcases List.mem_append.1 hp with h1 | h1
    · exact sz p h1
    · have := (checkS_ok (wrongS_zero hwr p h1)).2.2
      unfold maxLen
      omega)
  have HZ : Hid (∀ t ∈ togS x.s l, t.2.size ≤ maxLen) := fun t ht => by
    have hm := lastS_mem ((mem_togS AS.o l t).1 ht)
    rcases List.mem_append.1 hm with h1 | h1
    · exact sz t h1
    · have := (checkS_ok (wrongS_zero hwr t h1)).2.2
      unfold maxLen
      omega
  have hkl := togS_len x.s l
  have HNE : Hid (l.length = 0 ↔ l = []) := List.length_eq_zero_iff
  obtain ⟨PE, PN, PI, e1, e2, e3, HP⟩ : ∃ PE PN PI, PE = putE x l ∧ PN = putN x l ∧ PI = putI x l ∧ Hid ((24 < (togS x.s l).length → PE = 2 ∧ PN = 0 ∧ PI = Itm.none) ∧ (¬ 24 < (togS x.s l).length → l.length = 0 → PE = 1 ∧ PN = 0 ∧ PI = Itm.none) ∧ (¬ 24 < (togS x.s l).length → ¬ l.length = 0 → PE = 0 ∧ PN = (((togS x.s l).length : Nat) : Int) - ((x.s.length : Nat) : Int) ∧ PI = kindS (togS x.s l))) := by
    refine ⟨_, _, _, rfl, rfl, rfl, fun h => ?_, fun h hl0 => ?_, fun h hl0 => ?_⟩
    · have hE : putE x l = 2 := by rw [putE, if_neg (by simp [h0]), if_neg (by simp [hwr]), if_pos h]
      rw [putN, putI, hE]
      exact ⟨rfl, rfl, rfl⟩
    · have hE : putE x l = 1 := by rw [putE, if_neg (by simp [h0]), if_neg (by simp [hwr]), if_neg h, if_pos (HNE.out.1 hl0)]
      rw [putN, putI, hE]
      exact ⟨rfl, rfl, rfl⟩
    · have hE : putE x l = 0 := by rw [putE, if_neg (by simp [h0]), if_neg (by simp [hwr]), if_neg h, if_neg (fun e => hl0 (HNE.out.2 e))]
      rw [putN, putI, hE]
      exact ⟨rfl, rfl, rfl⟩
  rw [← e1, ← e2, ← e3]
  rw [h0] at HC
  have HWR := hide hwr
  clear e1 e2 e3 h0 hwr hl hx3 AS sz HNE
  generalize togS x.s l = K at *
  generalize x.s.length = n3 at *
  generalize x.l.length = n1 at *
  generalize x.t = t at *
  generalize x.k = k at *
  generalize x.p.length = n2 at *
  go_enter Tryz.func44, Tryz.ntmps44
  go_wp2_with fail
  refine (HC.out _ (((Below.refl _ w).alloc (Nat.le_refl _) _).alloc (by simp) _)).mono ?_
  rintro e w1 ⟨rfl, hb1⟩
  obtain ⟨hc, hf⟩ := bcell hb1
  have hz : w.heap.size + 1 < w1.heap.size := by have := hb1.size; simp at this; omega
  have hy : w.heap.size < w1.heap.size := by omega
  have hB1 : Below w.heap.size w w1 := (((Below.refl _ w).alloc (Nat.le_refl _) _).alloc (by simp) _).trans (hb1.mono (by simp; omega))
  have HBX : Hid (∀ W, Below w1.heap.size w1 W → (W.cell? ⟨w.heap.size + 1, 0, none⟩ = some (.int .i64 0) ∧ W.cell? ⟨w.heap.size + 1, 1, none⟩ = some (.string ⟨#[]⟩) ∧ W.cell? ⟨w.heap.size + 1, 2, none⟩ = some (.slice none 0 0) ∧ W.cell? ⟨w.heap.size + 1, 3, none⟩ = some (.slice none 0 0) ∧ W.cell? ⟨w.heap.size + 1, 4, none⟩ = some (.slice none 0 0)) ∧ (∀ j, W.frozen? ⟨w.heap.size + 1, j, none⟩ = false) ∧ W.cell? ⟨w.heap.size, 4, none⟩ = some (.slice a3 n3 c3)) := fun W hW =>
    ⟨⟨(hW.cell (p := ⟨w.heap.size + 1, 0, none⟩) hz).trans ((hc _ _ (by simp)).trans (by simp [go_sem])), (hW.cell (p := ⟨w.heap.size + 1, 1, none⟩) hz).trans ((hc _ _ (by simp)).trans (by simp [go_sem])), (hW.cell (p := ⟨w.heap.size + 1, 2, none⟩) hz).trans ((hc _ _ (by simp)).trans (by simp [go_sem])), (hW.cell (p := ⟨w.heap.size + 1, 3, none⟩) hz).trans ((hc _ _ (by simp)).trans (by simp [go_sem])), (hW.cell (p := ⟨w.heap.size + 1, 4, none⟩) hz).trans ((hc _ _ (by simp)).trans (by simp [go_sem]))⟩, fun j => (hW.frozen (p := ⟨w.heap.size + 1, j, none⟩) hz).trans ((hf _ _ (by simp)).trans (by simp [go_sem])), (hW.cell (p := ⟨w.heap.size, 4, none⟩) hy).trans ((hc _ _ (by simp; omega)).trans (by simp [go_sem]))⟩
  have hz1 := hB1.size
  clear hc hf hb1 HC
  go_wp2_with fail
  go_loopw [20] (fun iv wr => ∃ q : Nat, q ≤ l.length ∧ iv = .int .i64 q ∧ Hid (wrongS l = wrongS (l.drop q)) ∧ Below w1.heap.size w1 wr) (fun iv _ => l.length - (intOf iv).toNat)
  case atStart => exact ⟨0, Nat.zero_le _, rfl, rfl, Below.refl _ _⟩
  case round =>
    obtain ⟨q, hq, rfl, HW, hbr⟩ := hrel
    have hsz := hbr.size
    have hBr : Below w.heap.size w wr := hB1.trans (hbr.mono hz1)
    by_cases hlt : q < l.length
    · have hlt' : ((q : Nat) : Int) < ((l.length : Nat) : Int) := by omega
      obtain ⟨g0, o0, rfl, hcs⟩ : ∃ g o, al = some ⟨g, o, none⟩ ∧ ∀ i (h : i < l.length), w.cell? ⟨g, o + i * 2, none⟩ = some (.int .i64 l[i].1) ∧ w.cell? ⟨g, o + i * 2 + 1, none⟩ = some (.string l[i].2) := by
        rcases HL.out with h | h
        · rw [h] at hlt; simp at hlt
        · exact h
      have d0 := (hBr.cell (p := ⟨g0, o0 + q * 2, none⟩) (World.block_lt_of_cell? _ _ (hcs q hlt).1)).trans (hcs q hlt).1
      have d1 := (hBr.cell (p := ⟨g0, o0 + q * 2 + 1, none⟩) (World.block_lt_of_cell? _ _ (hcs q hlt).2)).trans (hcs q hlt).2
      have HST : Hid (wrongS l = if checkS l[q] ≠ 0 then checkS l[q] else wrongS (l.drop (q + 1))) := by rw [Hid, HW.out, List.drop_eq_getElem_cons hlt, wrongS]
      have HCK := hide (check_any l[q])
      have CA := hbr.alloc hsz (.cells #[.int .i64 l[q].1, .string l[q].2] 89)
      clear hcs
      generalize l[q] = X at *
      obtain ⟨X1, X2⟩ := X
      dsimp only at d0 d1 HCK CA
      have hck : checkS (X1, X2) = 0 := by
        refine Decidable.not_not.1 fun hn => ?_
        have h1 := HST.out
        rw [if_pos hn, HWR.out] at h1
        exact hn h1.symm
      have HW2 : Hid (wrongS l = wrongS (l.drop (q + 1))) := by rw [Hid, HST.out, if_neg (by simp [hck])]
      rw [hck] at HCK
      clear HST hck HWR HW HTOG HP HZ
      go_wp2_with fail
      refine (HCK.out _).mono ?_
      rintro e w5 ⟨rfl, hb5⟩
      have C5 := CA.trans (hb5.mono CA.size)
      clear hb5 CA
      go_wp2_with fail
      go_roundw
      case rel => exact ⟨q + 1, by omega, by go_num, HW2, C5⟩
      case measure => simp [intOf]; omega
    · have hge : ¬ ((q : Nat) : Int) < ((l.length : Nat) : Int) := by omega
      obtain rfl : q = l.length := by omega
      obtain ⟨-, -, x2⟩ := HBX.out wr hbr
      clear HW HWR hlt hq
      go_wp2_with fail
      refine (HTOG.out _ hBr).mono ?_
      rintro e w5 ⟨a', cap, rfl, hT5, hb5⟩
      have HT5 := hide hT5
      have C5 : Below w1.heap.size w1 w5 := hbr.trans (hb5.mono hsz)
      have hsz5 := C5.size
      have hsz5' := hb5.size
      clear hT5 HTOG
      by_cases hk24 : 24 < K.length
      · have hk24' : (24 : Int) < ((K.length : Nat) : Int) := by omega
        have H1 := hide (HP.out.1 hk24)
        clear HP HZ HT5
        obtain ⟨⟨r0, r1, r2, r3, r4⟩, fz, x2⟩ := HBX.out w5 C5
        have fz0 := fz 0
        have fz1 := fz 1
        have fz2 := fz 2
        have fz3 := fz 3
        have fz4 := fz 4
        have hB5 := hB1.trans (C5.mono hz1)
        go_wp2_with fail
        refine bodyPost_ret (v := .tuple #[.agg #[.int .i64 0, .string ⟨#[]⟩, .slice none 0 0, .slice none 0 0, .slice none 0 0], .int .i64 0, .int .i64 2]) (by simp [results, Tryz.results44, go_sem, r0, r1, r2, r3, r4]) rfl ⟨_, by rw [H1.out.1, H1.out.2.1], by rw [H1.out.2.2]; exact fun w'' _ => zero_is w'', ?_⟩
        go_grown
      · have hk24' : ¬ (24 : Int) < ((K.length : Nat) : Int) := by omega
        by_cases hl0 : l.length = 0
        · have H1 := hide (HP.out.2.1 hk24 hl0)
          have hl0' : ((l.length : Nat) : Int) = 0 := by omega
          clear HP HZ HT5
          obtain ⟨⟨r0, r1, r2, r3, r4⟩, fz, x2⟩ := HBX.out w5 C5
          have fz0 := fz 0
          have fz1 := fz 1
          have fz2 := fz 2
          have fz3 := fz 3
          have fz4 := fz 4
          have hB5 := hB1.trans (C5.mono hz1)
          go_wp2_with fail
          refine bodyPost_ret (v := .tuple #[.agg #[.int .i64 0, .string ⟨#[]⟩, .slice none 0 0, .slice none 0 0, .slice none 0 0], .int .i64 0, .int .i64 1]) (by simp [results, Tryz.results44, go_sem, r0, r1, r2, r3, r4]) rfl ⟨_, by rw [H1.out.1, H1.out.2.1], by rw [H1.out.2.2]; exact fun w'' _ => zero_is w'', ?_⟩
          go_grown
        · have H1 := hide (HP.out.2.2 hk24 hl0)
          have hl0' : ¬ ((l.length : Nat) : Int) = 0 := by omega
          clear HP
          obtain ⟨fk, fa, fn, fc, ho, hi⟩ := scoreOf_item (p := fun W' => ∀ g o u, wr.heap.size ≤ g → w5.cell? ⟨g, o, none⟩ = some u → w5.frozen? ⟨g, o, none⟩ = false → W'.cell? ⟨g, o, none⟩ = some u) (cp := cap) (fun W' hW' => HT5.out W' hW') HZ.out (by omega)
          have HO := hide ho
          have HI := hide hi
          clear ho hi HT5 HZ
          obtain ⟨-, -, x2'⟩ := HBX.out w5 C5
          have hbd : Below w1.heap.size w1 w5.drew := C5.drew
          have nn1 : w5.heap.size ≠ w.heap.size + 1 := by omega
          have nn2 : w.heap.size + 1 ≠ w5.heap.size := by omega
          have nn3 : w.heap.size ≠ w.heap.size + 1 := by omega
          have nn4 : w.heap.size + 1 ≠ w.heap.size := by omega
          have nn5 : ¬ w.heap.size = w.heap.size + 1 := by omega
          have hwr := wrap_small (((K.length : Nat) : Int) - ((n3 : Nat) : Int)) (by omega) (by omega)
          go_wp2_with fail
          go_region_held3 (fun w' => w'.cell? ⟨w.heap.size, 4, none⟩ = some (.slice a3 n3 c3)) (go_keep)
            ((go_at_call 114; refine (HO.out _).mono ?_; rintro e w9 ⟨rfl, hb9⟩; have hb9' : Below w1.heap.size w1 w9 := hbd.trans (hb9.mono hsz5); obtain ⟨⟨b0, b1, b2, b3, b4⟩, fz, x3⟩ := HBX.out w9 hb9'; have fz0 := fz 0; have fz1 := fz 1; have fz2 := fz 2; have fz3 := fz 3; have fz4 := fz 4))
          all_goals
            go_wp2_with fail
            refine bodyPost_ret (v := .tuple #[.agg #[.int .i64 fk, .string ⟨#[]⟩, .slice none 0 0, .slice none 0 0, .slice fa fn fc], .int .i64 (((K.length : Nat) : Int) - ((n3 : Nat) : Int)), .int .i64 0]) (by simp [results, Tryz.results44, go_sem, b0, b1, b2, b3, b4]) rfl ⟨_, by rw [H1.out.1, H1.out.2.1], ?_, ?_⟩
            · rw [H1.out.2.2]
              exact fun w'' hw => HI.out w'' (fun g' o' u' hg hu hf => hw g' o' u' (by omega) ((five_apart w9 (w.heap.size + 1) _ _ _ _ _ g' o' (by omega)).trans ((hb9.cell (p := ⟨g', o', none⟩) (World.block_lt_of_cell? w5 _ hu)).trans hu)) (by simp only [World.frozen?_setCell]; exact (hb9.frozen (p := ⟨g', o', none⟩) (World.block_lt_of_cell? w5 _ hu)).trans hf))
            · have hb9'' := hB1.trans (hb9'.mono hz1)
              go_grown
theorem scorePut_own (v : Value) (x : Itm) (al : Option Addr) (cl : Nat) (l : List Sc) (w : World) (h : ItemIs w v x) (hl : ScoresAt w al l) (hll : l.length ≤ 1400000) :
    Calls Tryz.prog 44 #[v, .slice al l.length cl] w fun e w' => ∃ u, e = .returned (.tuple #[u, .int .i64 (putN x l), .int .i64 (putE x l)]) ∧ ItemOwn w.heap.size w' u (putI x l) ∧ Below w.heap.size w w' := by
  by_cases h0 : asI x 5 = 0
  · by_cases h1 : wrongS l = 0
    · exact scorePut_right v x al cl l w h hl hll h0 h1
    · exact scorePut_wrong v x al cl l w h hl hll (.inr h1)
  · exact scorePut_wrong v x al cl l w h hl hll (.inl h0)
theorem scorePut_any (v : Value) (x : Itm) (al : Option Addr) (cl : Nat) (l : List Sc) (w : World) (h : ItemIs w v x) (hl : ScoresAt w al l) (hll : l.length ≤ 1400000) :
    Calls Tryz.prog 44 #[v, .slice al l.length cl] w fun e w' => ∃ u, e = .returned (.tuple #[u, .int .i64 (putN x l), .int .i64 (putE x l)]) ∧ ItemFrom w.heap.size w' u (putI x l) ∧ Below w.heap.size w w' :=
  (scorePut_own v x al cl l w h hl hll).mono fun _ _ ⟨u, he, hi, hb⟩ => ⟨u, he, hi.from, hb⟩
end Go.Proofs.YtcidoodaiimhfaaGreat.Z

/- WALKS of scores: a copy, DeleteFunc, Drop. -/
namespace Go.Proofs.YtcidoodaiimhfaaGreat.Z
open Go.RowKit

set_option maxRecDepth 100000 in
set_option maxHeartbeats 1000000 in
theorem cloneP_any (a : Option Addr) (c : Nat) (L : List Sc) (w : World) (hL : ScoresAt w a L) (hn : L.length ≤ 1000000) :
    Calls Tryz.prog 116 #[.slice a L.length c] w fun e w' => ∃ v, e = .returned v ∧ w'.ownsRow w.heap.size 89 2 v L.length (rowP L) ∧ Below w.heap.size w w' := by
  cases a with
  | none =>
    obtain rfl : L = [] := by
      rcases hL with h | ⟨g, o, h, _⟩
      · exact h
      · cases h
    have he : ∀ w : World, (binOp .eql 26 (.slice none 0 c) (.slice none 0 0)).run Tryz.prog w = .ok (.bool true) w := fun _ => rfl
    go_enter Tryz.func116, Tryz.ntmps116
    go_wp2_with fail
    go_ret
    exact ⟨_, rfl, World.ownsRow_nil _ _ _ _, Below.refl _ _⟩
  | some ad =>
    have HL := hide hL
    clear hL
    have HB : Below w.heap.size w (w.alloc (.cells #[] 89)) := (Below.refl _ w).alloc (Nat.le_refl _) _
    have HO : (w.alloc (.cells #[] 89)).ownsRow w.heap.size 89 2 (.slice (some ⟨w.heap.size, 0, none⟩) 0 0) 0 [] := World.ownsRow_lit w #[] 0 (Nat.le_refl _) (Nat.zero_le _) rfl
    have HLB := HL.out.below HB
    have he : ∀ w : World, (binOp .eql 26 (.slice (some ad) L.length c) (.slice none 0 0)).run Tryz.prog w = .ok (.bool false) w := fun _ => rfl
    go_enter Tryz.func116, Tryz.ntmps116
    go_wp2_with (at_builtin; refine wpList_append_pairs rfl _ _ rfl w.heap.size _ 0 [] rfl HO (some ad) c L rfl HLB (by omega) (by simp) ?_)
    intro v2 w2 hown2 hg2
    have hb2 : Below w.heap.size w w2 := HB.grown hg2 HB.size (fun j hj => (HO.lt j hj).1)
    go_wp2_with fail
    go_ret
    exact ⟨v2, rfl, hown2, hb2⟩
set_option maxRecDepth 100000 in
set_option maxHeartbeats 1000000 in
theorem indexT_any (a : Option Addr) (cap : Nat) (ts : List ByteArray) (s : ByteArray) (w : World) (hs : TextsAt w a ts) (hn : ts.length ≤ 281474976710656) :
    Calls Tryz.prog 159 #[.slice a ts.length cap, .string s] w fun e w' => (∃ n : Int, e = .returned (.int .i64 n) ∧ decide (0 ≤ n) = hasT ts s) ∧ w' = w := by
  have HS := hide hs
  clear hs
  go_enter Tryz.func159, Tryz.ntmps159
  go_wp2_with fail
  go_loop [8] (fun i => ∃ k : Nat, k ≤ ts.length ∧ i = .int .i64 k ∧ Hid (s ∉ ts.take k)) (fun i => ts.length - (intOf i).toNat)
  case atStart => exact ⟨0, Nat.zero_le _, rfl, by simp [Hid]⟩
  case round =>
    obtain ⟨k, hk, rfl, HA⟩ := hrel
    by_cases hlt : k < ts.length
    · have hlt' : ((k : Nat) : Int) < ((ts.length : Nat) : Int) := by omega
      obtain ⟨g, o, rfl, hcs⟩ : ∃ g o, a = some ⟨g, o, none⟩ ∧ ∀ i (h : i < ts.length), w.cell? ⟨g, o + i, none⟩ = some (.string ts[i]) := by
        rcases HS.out with h | h
        · subst h; simp at hlt
        · exact h
      have d0 : w.cell? ⟨g, o + k, none⟩ = some (.string ts[k]) := hcs k hlt
      have HT : Hid (ts[k] ≠ s → s ∉ ts.take (k + 1)) := fun hne hm => by
        rw [List.take_succ_eq_append_getElem hlt, List.mem_append] at hm
        rcases hm with hm | hm
        · exact HA.out hm
        · simp at hm; exact hne hm.symm
      have HF : Hid (ts[k] = s → hasT ts s = true) := fun he => hasT_iff.2 (he ▸ List.getElem_mem hlt)
      have hbq := beq_fd s ts[k]
      clear hcs HS
      generalize ts[k] = X at *
      by_cases hXs : X = s
      · have HF' := hide (HF.out hXs)
        have hb1 : (s.toList == X.toList) = true := by rw [hbq]; exact decide_eq_true hXs.symm
        have HXs := hide hXs
        clear HT HF hbq hXs
        go_wp2_with fail
        go_ret
        exact ⟨⟨_, rfl, by rw [HF'.out]; simp⟩, rfl⟩
      · have HT' := hide (HT.out hXs)
        have hb1 : (s.toList == X.toList) = false := by rw [hbq]; exact decide_eq_false (fun e => hXs e.symm)
        have HXs := hide hXs
        clear HT HF hbq hXs
        go_wp2_with fail
        go_round
        case rel => exact ⟨k + 1, by omega, by go_num, HT'⟩
        case measure => simp [intOf]; omega
    · have hge : ¬ ((k : Nat) : Int) < ((ts.length : Nat) : Int) := by omega
      obtain rfl : k = ts.length := by omega
      have HY : Hid (hasT ts s = false) := by have := HA.out; rw [List.take_length] at this; exact hasT_not this
      go_wp2_with fail
      go_ret
      exact ⟨⟨-1, rfl, by rw [HY.out]; rfl⟩, rfl⟩
theorem containsT_any (a : Option Addr) (cap : Nat) (ts : List ByteArray) (s : ByteArray) (w : World) (hs : TextsAt w a ts) (hn : ts.length ≤ 281474976710656) :
    Calls Tryz.prog 101 #[.slice a ts.length cap, .string s] w fun e w' => e = .returned (.bool (hasT ts s)) ∧ w' = w := by
  have HI := hide (indexT_any a cap ts s w hs hn)
  clear hs
  go_enter Tryz.func101, Tryz.ntmps101
  go_wp2_with fail
  refine HI.out.mono ?_
  rintro e w1 ⟨⟨n, rfl, hd⟩, rfl⟩
  have HD := hide hd
  clear hd
  go_wp2_with fail
  go_ret
  exact ⟨by rw [← HD.out]; rfl, rfl⟩
set_option maxRecDepth 100000 in
theorem goesP_any (b : Nat) (al : Option Addr) (cl : Nat) (l : List ByteArray) (x : Sc) (W : World) (hc : W.cell? ⟨b, 0, none⟩ = some (.slice al l.length cl)) (hl : TextsAt W al l) (hn : l.length ≤ 281474976710656) :
    Calls Tryz.prog 117 #[.agg #[.int .i64 x.1, .string x.2], .pointer (some ⟨b, 0, none⟩)] W fun e w' => e = .returned (.bool (hasT l x.2)) ∧ Below W.heap.size W w' := by
  have hbl := World.block_lt_of_cell? _ _ hc
  have hB : Below W.heap.size W (W.alloc (.cells #[.int .i64 x.1, .string x.2] 89)) := (Below.refl _ W).alloc (Nat.le_refl _) _
  have hc2 : (W.alloc (.cells #[.int .i64 x.1, .string x.2] 89)).cell? ⟨b, 0, none⟩ = some (.slice al l.length cl) := (hB.cell (p := ⟨b, 0, none⟩) hbl).trans hc
  have HN := hide (containsT_any al cl l x.2 _ (hl.below hB) hn)
  clear hl hc
  generalize hasT l x.2 = R at *
  go_enter Tryz.func117, Tryz.ntmps117
  go_wp2_with fail
  refine HN.out.mono ?_
  rintro e w1 ⟨rfl, rfl⟩
  go_wp2_with fail
  go_ret
  exact ⟨rfl, hB⟩
end Go.Proofs.YtcidoodaiimhfaaGreat.Z
namespace Go.Proofs.YtcidoodaiimhfaaGreat.Z
open Go.RowKit

/-- a row of pairs that may be written -/
structure RowAt (w : World) (g : Nat) (M : List Sc) : Prop where
  c : ∀ i (h : i < M.length), w.cell? ⟨g, i * 2, none⟩ = some (.int .i64 M[i].1) ∧ w.cell? ⟨g, i * 2 + 1, none⟩ = some (.string M[i].2)
  f : ∀ o, w.frozen? ⟨g, o, none⟩ = false
theorem RowAt.of {w : World} {base g cap : Nat} {M : List Sc} (h : w.ownsRow base 89 2 (.slice (some ⟨g, 0, none⟩) M.length cap) M.length (rowP M)) : RowAt w g M := by
  refine ⟨fun i hi => ?_, fun o => ?_⟩
  · obtain ⟨r1, r2⟩ := rowP_at M i hi
    exact ⟨by rw [h.cellAt _ (by omega)]; exact r1, by rw [h.cellAt _ (by omega)]; exact r2⟩
  · rcases h.2 with ⟨h, _⟩ | ⟨g', cap', cur, h, _, hg, _⟩
    · cases h
    · obtain rfl : g = g' := (by simpa using h : g = g' ∧ cap = cap').1
      simp [World.frozen?, hg]
theorem RowAt.below {w w' : World} {g : Nat} {M : List Sc} (h : RowAt w g M) (hlt : g < w.heap.size) (hb : Below w.heap.size w w') : RowAt w' g M :=
  ⟨fun i hi => ⟨(hb.cell (p := ⟨g, i * 2, none⟩) hlt).trans (h.c i hi).1, (hb.cell (p := ⟨g, i * 2 + 1, none⟩) hlt).trans (h.c i hi).2⟩, fun o => (hb.frozen (p := ⟨g, o, none⟩) hlt).trans (h.f o)⟩
theorem RowAt.set {w : World} {g : Nat} {M : List Sc} (h : RowAt w g M) (i : Nat) (hi : i < M.length) (p : Sc) : RowAt ((w.setCell ⟨g, i * 2, none⟩ (.int .i64 p.1)).setCell ⟨g, i * 2 + 1, none⟩ (.string p.2)) g (M.set i p) := by
  obtain ⟨c0, c1⟩ := h.c i hi
  refine ⟨fun j hj => ?_, fun o => ?_⟩
  · rw [List.length_set] at hj
    obtain ⟨d0, d1⟩ := h.c j hj
    have oth : ∀ (W : World) (a b : Nat) (u : Value), a ≠ b → (W.setCell ⟨g, a, none⟩ u).cell? ⟨g, b, none⟩ = W.cell? ⟨g, b, none⟩ := fun W a b u hab => World.cell?_setCell_other _ _ _ _ (by intro e; injection e with _ e; exact hab e)
    by_cases hij : i = j
    · subst hij
      rw [List.getElem_set_self]
      refine ⟨?_, ?_⟩
      · rw [oth _ _ _ _ (by omega)]
        exact World.cell?_setCell_same' _ _ _ (by rw [c0]; rfl)
      · exact World.cell?_setCell_same' _ _ _ (by rw [oth _ _ _ _ (by omega), c1]; rfl)
    · rw [List.getElem_set_ne hij]
      refine ⟨?_, ?_⟩
      · rw [oth _ _ _ _ (by omega), oth _ _ _ _ (by omega)]; exact d0
      · rw [oth _ _ _ _ (by omega), oth _ _ _ _ (by omega)]; exact d1
  · rw [World.frozen?_setCell, World.frozen?_setCell]; exact h.f o
theorem belowSetCells {n0 g : Nat} {w0 : World} (hg : n0 ≤ g) : ∀ (vs : List Value) (f : Nat) (w : World), Below n0 w0 w → Below n0 w0 (w.setCells g f vs)
  | [], _, _, h => h
  | v :: r, f, _, h => belowSetCells hg r (f + 1) _ (h.setCell (p := ⟨g, f, none⟩) hg v)
/-- clear of what is behind -/
theorem run_clear_pairs (w : World) (g f n c : Nat) (hn : 0 < n) (hc : ∀ j, j < n * 2 → (w.cell? ⟨g, f + j, none⟩).isSome = true) (hf : ∀ j, w.frozen? ⟨g, j, none⟩ = false) :
    ∃ vs : List Value, vs.length = n * 2 ∧ ∀ ty, (Builtin.clear_ #[26] ty #[.slice (some ⟨g, f, none⟩) n c]).run Tryz.prog w = .ok (.tuple #[]) (w.setCells g f vs) := by
  have hl : ((Builtin.zeroCells #[.int .i64 0, .string ⟨#[]⟩] n).toList).length = n * 2 := by rw [Array.length_toList, size_zeroCells]; rfl
  have h1 : ∀ v ∈ (Builtin.zeroCells #[.int .i64 0, .string ⟨#[]⟩] n).toList, v.oneCell' = true := by
    intro v hv
    simp [Builtin.zeroCells] at hv
    obtain ⟨i, _, rfl⟩ := hv
    have : i % 2 = 0 ∨ i % 2 = 1 := by omega
    rcases this with h | h <;> rw [h] <;> rfl
  have hst := run_storeCells_cells (P := Tryz.prog) g f (Builtin.zeroCells #[.int .i64 0, .string ⟨#[]⟩] n).toList 0 w (by rw [hl]; simpa using hc) (fun j _ => hf _) h1
  rw [Nat.add_zero] at hst
  refine ⟨_, hl, fun ty => ?_⟩
  obtain ⟨m, rfl⟩ : ∃ m, n = m + 1 := ⟨n - 1, by omega⟩
  simp [Builtin.clear_, run_underlying Tryz.underlying26, Value.cells, hst]
/-- what stays -/
def stayP (L : List Sc) (l : List ByteArray) : List Sc := L.filter fun p => !hasT l p.2
theorem stayP_len (L : List Sc) (l : List ByteArray) : (stayP L l).length ≤ L.length := List.length_filter_le _ _
theorem stay_all {L : List Sc} {l : List ByteArray} (h : ∀ x ∈ L, hasT l x.2 = false) : stayP L l = L := List.filter_eq_self.2 fun x hx => by rw [h x hx]; rfl
theorem stay_snoc (L : List Sc) (l : List ByteArray) (p : Sc) : stayP (L ++ [p]) l = if hasT l p.2 = true then stayP L l else stayP L l ++ [p] := by
  unfold stayP
  rw [List.filter_append]
  by_cases h : hasT l p.2 = true <;> simp [h]
/-- so many have been looked at, so many stay -/
structure DelAt (w0 : World) (g : Nat) (L : List Sc) (l : List ByteArray) (i j : Nat) (wr : World) : Prop where
  M : ∃ M : List Sc, M.length = L.length ∧ RowAt wr g M ∧ M.take i = stayP (L.take j) l ∧ M.drop j = L.drop j
  ij : i < j
  jn : j ≤ L.length
  b : Below w0.heap.size w0 wr
  lt : g < wr.heap.size
theorem DelAt.skip {w0 wr w' : World} {g i j : Nat} {L : List Sc} {l : List ByteArray} (h : DelAt w0 g L l i j wr) (hj : j < L.length) (hx : hasT l L[j].2 = true) (hb : Below wr.heap.size wr w') : DelAt w0 g L l i (j + 1) w' := by
  obtain ⟨M, h1, h2, h3, h4⟩ := h.M
  refine ⟨⟨M, h1, h2.below h.lt hb, ?_, ?_⟩, by have := h.ij; omega, by omega, h.b.trans (hb.mono h.b.size), Nat.lt_of_lt_of_le h.lt hb.size⟩
  · rw [h3, List.take_succ_eq_append_getElem hj, stay_snoc, if_pos hx]
  · have := congrArg (List.drop 1) h4
    rwa [List.drop_drop, List.drop_drop] at this
theorem DelAt.keep {w0 wr w' : World} {g i j : Nat} {L : List Sc} {l : List ByteArray} (h : DelAt w0 g L l i j wr) (hg : w0.heap.size ≤ g) (hj : j < L.length) (hx : hasT l L[j].2 = false) (hb : Below wr.heap.size wr w') :
    DelAt w0 g L l (i + 1) (j + 1) ((w'.setCell ⟨g, i * 2, none⟩ (.int .i64 L[j].1)).setCell ⟨g, i * 2 + 1, none⟩ (.string L[j].2)) := by
  obtain ⟨M, h1, h2, h3, h4⟩ := h.M
  have hij := h.ij
  refine ⟨⟨M.set i L[j], by rw [List.length_set, h1], (h2.below h.lt hb).set i (by omega) L[j], ?_, ?_⟩, by omega, by omega, ((h.b.trans (hb.mono h.b.size)).setCell (p := ⟨g, i * 2, none⟩) hg _).setCell (p := ⟨g, i * 2 + 1, none⟩) hg _, ?_⟩
  · rw [List.take_succ_eq_append_getElem (by rw [List.length_set]; omega), List.getElem_set_self, List.take_set_of_le (by omega), h3, List.take_succ_eq_append_getElem hj, stay_snoc, if_neg (by rw [hx]; simp)]
  · rw [List.drop_set_of_lt (by omega)]
    have := congrArg (List.drop 1) h4
    rwa [List.drop_drop, List.drop_drop] at this
  · have := Nat.lt_of_lt_of_le h.lt hb.size
    simpa [World.setCell] using this
theorem DelAt.at_ {w0 wr : World} {g i j : Nat} {L : List Sc} {l : List ByteArray} (h : DelAt w0 g L l i j wr) (hj : j < L.length) : wr.cell? ⟨g, j * 2, none⟩ = some (.int .i64 L[j].1) ∧ wr.cell? ⟨g, j * 2 + 1, none⟩ = some (.string L[j].2) ∧ (∃ u, wr.cell? ⟨g, i * 2, none⟩ = some (.int .i64 u)) ∧ (∃ u, wr.cell? ⟨g, i * 2 + 1, none⟩ = some (.string u)) ∧ (∀ o, wr.frozen? ⟨g, o, none⟩ = false) := by
  obtain ⟨M, h1, h2, h3, h4⟩ := h.M
  have hij := h.ij
  have e : M[j]'(by omega) = L[j] := by
    have := congrArg (fun z => z[0]?) h4
    simp only [List.getElem?_drop, Nat.add_zero] at this
    rw [List.getElem?_eq_getElem (by omega), List.getElem?_eq_getElem hj] at this
    exact Option.some.inj this
  obtain ⟨c0, c1⟩ := h2.c j (by omega)
  rw [e] at c0 c1
  exact ⟨c0, c1, ⟨_, (h2.c i (by omega)).1⟩, ⟨_, (h2.c i (by omega)).2⟩, h2.f⟩
set_option maxRecDepth 100000 in
set_option maxHeartbeats 4000000 in
theorem delP_any (b : Nat) (al : Option Addr) (cl : Nat) (l : List ByteArray) (g cap : Nat) (L : List Sc) (w0 w : World) (hrow : w.ownsRow w0.heap.size 89 2 (.slice (some ⟨g, 0, none⟩) L.length cap) L.length (rowP L)) (hb : Below w0.heap.size w0 w)
    (hc : w0.cell? ⟨b, 0, none⟩ = some (.slice al l.length cl)) (hl : TextsAt w0 al l) (hn : l.length ≤ 281474976710656) (hL : L.length ≤ 1000000) :
    Calls Tryz.prog 115 #[.slice (some ⟨g, 0, none⟩) L.length cap, .func (.func 117) #[] #[.pointer (some ⟨b, 0, none⟩)]] w fun e w' => e = .returned (.slice (some ⟨g, 0, none⟩) (stayP L l).length cap) ∧ PairsFrom w0.heap.size w' (some ⟨g, 0, none⟩) (stayP L l) ∧ Below w0.heap.size w0 w' := by
  have hlt := hrow.lt g rfl
  have hcap : L.length ≤ cap := by
    rcases hrow.2 with ⟨h, _⟩ | ⟨g', cap', cur, h, _, _, h1, _⟩
    · cases h
    · obtain ⟨_, rfl⟩ : g = g' ∧ cap = cap' := by simpa using h
      exact h1
  have hR := RowAt.of hrow
  have HP : Hid (ScoresAt w (some ⟨g, 0, none⟩) L) := .inr ⟨g, 0, rfl, fun i hi => by rw [Nat.zero_add]; exact hR.c i hi⟩
  have eg : ∀ args w, (callFunc 117 args).run Tryz.prog w = .ok (.enter 117 args) w := enters_of Tryz.func117 (by kernel_rfl) rfl
  have HG : Hid (∀ W (x : Sc), Below w0.heap.size w0 W → Calls Tryz.prog 117 #[.agg #[.int .i64 x.1, .string x.2], .pointer (some ⟨b, 0, none⟩)] W fun e w' => e = .returned (.bool (hasT l x.2)) ∧ Below W.heap.size W w') := fun W x hW => goesP_any b al cl l x W ((hW.cell (p := ⟨b, 0, none⟩) (World.block_lt_of_cell? _ _ hc)).trans hc) (hl.below hW) hn
  have HX : Hid (Calls Tryz.prog 150 #[.slice (some ⟨g, 0, none⟩) L.length cap, .func (.func 117) #[] #[.pointer (some ⟨b, 0, none⟩)]] w fun e w' => e = .returned (.int .i64 (idxF (fun x => hasT l x.2) L)) ∧ Below w.heap.size w w') := idxP_any 117 #[.pointer (some ⟨b, 0, none⟩)] eg (fun x => hasT l x.2) _ cap L w HP.out (by omega) (fun W x hW => (HG.out W x (hb.trans (hW.mono hb.size))).mono fun e w' ⟨h1, h2⟩ => ⟨h1, hW.trans (h2.mono hW.size)⟩)
  have HR := hide hR
  have hlo := idxF_lo (fun x : Sc => hasT l x.2) L
  have hhi := idxF_hi (fun x : Sc => hasT l x.2) L
  clear hR hrow hc hl eg
  by_cases hneg : idxF (fun x : Sc => hasT l x.2) L < 0
  · have hst : stayP L l = L := stay_all (idxF_none hneg)
    have e1 : idxF (fun x : Sc => hasT l x.2) L = -1 := by omega
    rw [e1] at HX
    rw [hst]
    clear HG hst
    go_enter Tryz.func115, Tryz.ntmps115
    go_wp2_with fail
    refine HX.out.mono ?_
    rintro e w1 ⟨rfl, hb1⟩
    go_wp2_with fail
    go_ret
    exact ⟨rfl, PairsFrom.of (HP.out.below hb1) hlt.1 (fun i _ => ⟨(hb1.frozen (p := ⟨g, 0 + i * 2, none⟩) hlt.2).trans (HR.out.f _), (hb1.frozen (p := ⟨g, 0 + i * 2 + 1, none⟩) hlt.2).trans (HR.out.f _)⟩), hb.trans (hb1.mono hb.size)⟩
  · obtain ⟨i, hi⟩ : ∃ i : Nat, idxF (fun x : Sc => hasT l x.2) L = i := ⟨(idxF (fun x : Sc => hasT l x.2) L).toNat, by omega⟩
    obtain ⟨hil, hpi, hpj⟩ := idxF_at hi
    rw [hi] at HX
    have hst0 : stayP (L.take i) l = L.take i := stay_all fun x hx => by
      obtain ⟨j, hj, rfl⟩ := List.getElem_of_mem hx
      rw [List.getElem_take]
      exact hpj j (by simp at hj; omega)
    have HS1 : Hid (stayP (L.take (i + 1)) l = L.take i) := by
      rw [Hid, List.take_succ_eq_append_getElem hil, stay_snoc, if_pos hpi, hst0]
    clear hpi hpj hst0 hneg hlo hhi hi HP
    generalize hK : stayP L l = K
    have HK := hide hK
    clear hK
    go_enter Tryz.func115, Tryz.ntmps115
    go_wp2_with fail
    refine HX.out.mono ?_
    rintro e w1 ⟨rfl, hb1⟩
    have hB1 : Below w0.heap.size w0 w1 := hb.trans (hb1.mono hb.size)
    have HD1 : Hid (DelAt w0 g L l i (i + 1) w1) := ⟨⟨L, rfl, HR.out.below hlt.2 hb1, HS1.out.symm, rfl⟩, by omega, by omega, hB1, Nat.lt_of_lt_of_le hlt.2 hb1.size⟩
    have hi0 : ¬ ((i : Nat) : Int) = -1 := by omega
    clear HX HR HS1 hb1 hB1
    go_wp2_with fail
    go_loopw [5, 6] (fun iv jv wr => ∃ i j : Nat, iv = .int .i64 i ∧ jv = .int .i64 j ∧ DelAt w0 g L l i j wr) (fun _ jv _ => L.length - (intOf jv).toNat)
    case atStart => exact ⟨i, i + 1, rfl, by go_num, HD1.out⟩
    case round =>
      clear HD1 hil hi0
      obtain ⟨i, j, rfl, rfl, hD⟩ := hrel
      have HD := hide hD
      have hij := hD.ij
      have hjn := hD.jn
      have hzr := hD.b.size
      have hgz := hD.lt
      by_cases hj : j < L.length
      · have hj' : ((j : Nat) : Int) < ((L.length : Nat) : Int) := by omega
        have hi' : ((i : Nat) : Int) < ((L.length : Nat) : Int) := by omega
        obtain ⟨d0, d1, ⟨u0, e0⟩, ⟨u1, e1⟩, hf⟩ := hD.at_ hj
        have HSK : Hid (∀ w', hasT l L[j].2 = true → Below wr.heap.size wr w' → DelAt w0 g L l i (j + 1) w') := fun w' hx hb => HD.out.skip hj hx hb
        have HKP : Hid (∀ w', hasT l L[j].2 = false → Below wr.heap.size wr w' → DelAt w0 g L l (i + 1) (j + 1) ((w'.setCell ⟨g, i * 2, none⟩ (.int .i64 L[j].1)).setCell ⟨g, i * 2 + 1, none⟩ (.string L[j].2))) := fun w' hx hb => HD.out.keep hlt.1 hj hx hb
        have hDb := hD.b
        clear hD HD
        generalize L[j] = X at *
        obtain ⟨X1, X2⟩ := X
        go_wp2_with fail
        refine (HG.out _ (X1, X2) (hDb.alloc hDb.size _)).mono ?_
        rintro e w2 ⟨rfl, hb2⟩
        have hB2 : Below wr.heap.size wr w2 := ((Below.refl _ wr).alloc (Nat.le_refl _) _).trans (hb2.mono (by simp))
        have v0 : w2.cell? ⟨wr.heap.size, 0, none⟩ = some (.int .i64 X1) := (hb2.cell (p := ⟨wr.heap.size, 0, none⟩) (by simp)).trans (by simp [go_sem])
        have v1 : w2.cell? ⟨wr.heap.size, 1, none⟩ = some (.string X2) := (hb2.cell (p := ⟨wr.heap.size, 1, none⟩) (by simp)).trans (by simp [go_sem])
        have t0 : w2.cell? ⟨g, i * 2, none⟩ = some (.int .i64 u0) := (hB2.cell (p := ⟨g, i * 2, none⟩) hgz).trans e0
        have t1 : w2.cell? ⟨g, i * 2 + 1, none⟩ = some (.string u1) := (hB2.cell (p := ⟨g, i * 2 + 1, none⟩) hgz).trans e1
        have f0 : w2.frozen? ⟨g, i * 2, none⟩ = false := (hB2.frozen (p := ⟨g, i * 2, none⟩) hgz).trans (hf _)
        have f1 : w2.frozen? ⟨g, i * 2 + 1, none⟩ = false := (hB2.frozen (p := ⟨g, i * 2 + 1, none⟩) hgz).trans (hf _)
        clear hb2 d0 d1 e0 e1 hf hDb HG
        dsimp only
        cases hx : hasT l X2 with
        | true =>
          have HSK2 := hide (HSK.out w2 hx hB2)
          clear HSK HKP hx v0 v1 t0 t1 f0 f1
          go_wp2_with fail
          go_roundw
          case rel =>
            exact ⟨.int .i64 (i : Int), .int .i64 ((j : Int) + 1), _, _, _, _, _, _, _, _, _, _, _, _, _, _, _, _, _, _, _, _, _, ⟨i, j + 1, rfl, by simp, HSK2.out⟩, rfl⟩
          case measure => simp [intOf]; omega
        | false =>
          have HKP2 := hide (HKP.out w2 hx hB2)
          clear HSK HKP hx
          go_wp2_with fail
          go_roundw
          case rel =>
            exact ⟨.int .i64 ((i : Int) + 1), .int .i64 ((j : Int) + 1), _, _, _, _, _, _, _, _, _, _, _, _, _, _, _, _, _, _, _, _, _, ⟨i + 1, j + 1, by simp, by simp, HKP2.out⟩, rfl⟩
          case measure => simp [intOf]; omega
      · have hj' : ¬ ((j : Nat) : Int) < ((L.length : Nat) : Int) := by omega
        obtain rfl : j = L.length := by omega
        obtain ⟨M, m1, m2, m3, -⟩ := hD.M
        rw [List.take_length, HK.out] at m3
        have hki : K.length = i := by rw [← m3, List.length_take]; omega
        have hDb := hD.b
        have hcell : ∀ q, q < (L.length - i) * 2 → (wr.cell? ⟨g, i * 2 + q, none⟩).isSome = true := fun q hq => by
          obtain ⟨c0, c1⟩ := m2.c (i + q / 2) (by omega)
          by_cases hm : q % 2 = 0
          · rw [show i * 2 + q = (i + q / 2) * 2 by omega, c0]; rfl
          · rw [show i * 2 + q = (i + q / 2) * 2 + 1 by omega, c1]; rfl
        have hfro := m2.f
        have HR : Hid (∀ vs : List Value, vs.length = (L.length - i) * 2 → PairsFrom w0.heap.size (wr.setCells g (i * 2) vs) (some ⟨g, 0, none⟩) K ∧ Below w0.heap.size w0 (wr.setCells g (i * 2) vs)) := fun vs hvs => by
          refine ⟨PairsFrom.of (.inr ⟨g, 0, rfl, fun q hq => ?_⟩) hlt.1 (fun q _ => ⟨by rw [World.frozen?_setCells]; exact hfro _, by rw [World.frozen?_setCells]; exact hfro _⟩), ?_⟩
          · obtain ⟨c0, c1⟩ := m2.c q (by omega)
            have e : M[q]'(by omega) = K[q] := by
              have := congrArg (fun z => z[q]?) m3
              simp only [List.getElem?_take] at this
              rw [if_pos (by omega), List.getElem?_eq_getElem (by omega), List.getElem?_eq_getElem hq] at this
              exact Option.some.inj this
            rw [e] at c0 c1
            rw [Nat.zero_add]
            exact ⟨by rw [World.cell?_setCells_out g vs _ _ _ (fun _ _ => .inl (by simp only; omega))]; exact c0, by rw [World.cell?_setCells_out g vs _ _ _ (fun _ _ => .inl (by simp only; omega))]; exact c1⟩
          · exact belowSetCells hlt.1 _ _ _ hDb
        have hi' : ((i : Nat) : Int) ≤ ((L.length : Nat) : Int) := by omega
        have hic : ((i : Nat) : Int) ≤ ((cap : Nat) : Int) := by omega
        clear HG HK m1 m2 m3 hDb hD HD
        obtain ⟨vs, hvs, hrun⟩ := run_clear_pairs wr g (i * 2) (L.length - i) (cap - i) (by omega) hcell hfro
        obtain ⟨h8, h9⟩ := HR.out vs hvs
        have H8 := hide h8
        clear HR h8 hcell hfro hvs
        generalize wr.setCells g (i * 2) vs = W9 at *
        go_wp2_with fail
        go_ret
        exact ⟨rfl, H8.out, h9⟩
end Go.Proofs.YtcidoodaiimhfaaGreat.Z
namespace Go.Proofs.YtcidoodaiimhfaaGreat.Z
open Go.RowKit

set_option maxRecDepth 100000 in
theorem delNoneP_any (a : Option Addr) (cap : Nat) (fv : Value) (w : World) :
    Calls Tryz.prog 115 #[.slice a 0 cap, fv] w fun e w' => e = .returned (.slice a 0 cap) ∧ w' = w := by
  have HI := hide (idxP_none a cap fv w)
  go_enter Tryz.func115, Tryz.ntmps115
  go_wp2_with fail
  refine HI.out.mono ?_
  rintro e w1 ⟨rfl, rfl⟩
  go_wp2_with fail
  go_ret
  exact ⟨rfl, rfl⟩
/-- what Drop answers -/
def dropI (x : Itm) (l : List ByteArray) : Itm := if asI x 5 = 0 then kindS (stayP x.s l) else Itm.none
def dropN (x : Itm) (l : List ByteArray) : Int := if asI x 5 = 0 then ((x.s.length : Nat) : Int) - (((stayP x.s l).length : Nat) : Int) else 0
set_option maxRecDepth 100000 in
set_option maxHeartbeats 4000000 in
theorem scoreDrop_own (v : Value) (x : Itm) (al : Option Addr) (cl : Nat) (l : List ByteArray) (w : World) (h : ItemIs w v x) (hl : TextsAt w al l) (hll : l.length ≤ 281474976710656) :
    Calls Tryz.prog 45 #[v, .slice al l.length cl] w fun e w' => ∃ u, e = .returned (.tuple #[u, .int .i64 (dropN x l), .int .i64 (asI x 5)]) ∧ ItemOwn w.heap.size w' u (dropI x l) ∧ Below w.heap.size w w' := by
  have HC : Hid (∀ W, Below w.heap.size w W → Calls Tryz.prog 85 #[v, .int .i64 5] W fun e w' => e = .returned (.int .i64 (asI x 5)) ∧ Below W.heap.size W w') := fun W hW => common_any v x 5 W (h.below hW)
  obtain ⟨⟨a1, c1, a2, c2, a3, c3, rfl, -, -, hx2⟩, tz, -, -, pz, -, -, -⟩ := h
  by_cases h0 : asI x 5 = 0
  · have hx24 := (asI_score h0).n
    rw [dropI, if_pos h0, dropN, if_pos h0, h0]
    rw [h0] at HC
    have HX := hide hx2
    have HL := hide hl
    have HZ : Hid (∀ t ∈ stayP x.s l, t.2.size ≤ maxLen) := fun t ht => pz t (List.mem_filter.1 ht).1
    have HCL : Hid (∀ W, Below w.heap.size w W → Calls Tryz.prog 116 #[.slice a3 x.s.length c3] W fun e w' => ∃ a' cap, e = .returned (.slice a' x.s.length cap) ∧ Below W.heap.size W w' ∧ ∀ b, W.cell? ⟨b, 0, none⟩ = some (.slice al l.length cl) → Calls Tryz.prog 115 #[.slice a' x.s.length cap, .func (.func 117) #[] #[.pointer (some ⟨b, 0, none⟩)]] w' fun e w'' => e = .returned (.slice a' (stayP x.s l).length cap) ∧ PairsFrom W.heap.size w'' a' (stayP x.s l) ∧ Below W.heap.size W w'') := fun W hW => (cloneP_any a3 c3 x.s W (HX.out.below hW) (by omega)).mono fun e w' ⟨u, h1, h2, h3⟩ => by
      rcases h2.2 with ⟨rfl, h0⟩ | ⟨g, cap, cur, rfl, hrest⟩
      · have e0 : x.s = [] := List.eq_nil_of_length_eq_zero h0
        refine ⟨none, 0, by rw [h1, h0], h3, fun b hc => ?_⟩
        rw [e0]
        exact (delNoneP_any none 0 _ w').mono fun e w'' ⟨k1, k2⟩ => ⟨k1, PairsFrom.none _ _ _, k2 ▸ h3⟩
      · exact ⟨some ⟨g, 0, none⟩, cap, h1, h3, fun b hc => delP_any b al cl l g cap x.s W w' h2 h3 hc (HL.out.below hW) hll (by omega)⟩
    have hkl := stayP_len x.s l
    clear h0 hx2 hl pz HX HL
    generalize stayP x.s l = K at *
    generalize x.l.length = n1 at *
    generalize x.t = t at *
    generalize x.k = k at *
    generalize x.s.length = n2 at *
    generalize x.p.length = n3 at *
    go_enter Tryz.func45, Tryz.ntmps45
    go_wp2_with fail
    refine (HC.out _ ((((Below.refl _ w).alloc (Nat.le_refl _) _).alloc (by simp) _).alloc (by simp; omega) _)).mono ?_
    rintro e w1 ⟨rfl, hb1⟩
    obtain ⟨hc, hf⟩ := bcell hb1
    have hz : w.heap.size + 2 < w1.heap.size := by have := hb1.size; simp at this; omega
    have hB1 : Below w.heap.size w w1 := ((((Below.refl _ w).alloc (Nat.le_refl _) _).alloc (by simp) _).alloc (by simp; omega) _).trans (hb1.mono (by simp; omega))
    have y0 : w.heap.size < w1.heap.size := by omega
    have y1 : w.heap.size + 1 < w1.heap.size := by omega
    go_wp2_with fail
    refine (HCL.out _ hB1).mono ?_
    rintro e w2 ⟨a', cap, rfl, hb2, HD⟩
    have HDD := hide (HD (w.heap.size + 1) ((hc _ _ (by simp)).trans (by simp [go_sem])))
    clear HD HCL HC
    have z2 := hb2.size
    go_wp2_with fail
    refine HDD.out.mono ?_
    rintro e w3 ⟨rfl, hT, hb3⟩
    have HT := hide hT
    clear hT HDD hb2
    have z3 := hb3.size
    have B3 : Below w.heap.size w w3 := hB1.trans (hb3.mono hB1.size)
    obtain ⟨fk, fa, fn, fc, ho, hi⟩ := scoreOf_item (p := fun W' => ∀ g o u, w1.heap.size ≤ g → w3.cell? ⟨g, o, none⟩ = some u → w3.frozen? ⟨g, o, none⟩ = false → W'.cell? ⟨g, o, none⟩ = some u) (cp := cap) HT.out HZ.out (by omega)
    have HO := hide ho
    have HI := hide hi
    clear ho hi HT HZ
    have HBX : Hid (∀ W, Below w1.heap.size w1 W → (W.cell? ⟨w.heap.size + 2, 0, none⟩ = some (.int .i64 0) ∧ W.cell? ⟨w.heap.size + 2, 1, none⟩ = some (.string ⟨#[]⟩) ∧ W.cell? ⟨w.heap.size + 2, 2, none⟩ = some (.slice none 0 0) ∧ W.cell? ⟨w.heap.size + 2, 3, none⟩ = some (.slice none 0 0) ∧ W.cell? ⟨w.heap.size + 2, 4, none⟩ = some (.slice none 0 0)) ∧ (∀ j, W.frozen? ⟨w.heap.size + 2, j, none⟩ = false) ∧ W.cell? ⟨w.heap.size, 4, none⟩ = some (.slice a3 n2 c3)) := fun W hW =>
      ⟨⟨(hW.cell (p := ⟨w.heap.size + 2, 0, none⟩) hz).trans ((hc _ _ (by simp)).trans (by simp [go_sem])), (hW.cell (p := ⟨w.heap.size + 2, 1, none⟩) hz).trans ((hc _ _ (by simp)).trans (by simp [go_sem])), (hW.cell (p := ⟨w.heap.size + 2, 2, none⟩) hz).trans ((hc _ _ (by simp)).trans (by simp [go_sem])), (hW.cell (p := ⟨w.heap.size + 2, 3, none⟩) hz).trans ((hc _ _ (by simp)).trans (by simp [go_sem])), (hW.cell (p := ⟨w.heap.size + 2, 4, none⟩) hz).trans ((hc _ _ (by simp)).trans (by simp [go_sem]))⟩, fun j => (hW.frozen (p := ⟨w.heap.size + 2, j, none⟩) hz).trans ((hf _ _ (by simp)).trans (by simp [go_sem])), (hW.cell (p := ⟨w.heap.size, 4, none⟩) y0).trans ((hc _ _ (by simp; omega)).trans (by simp [go_sem]))⟩
    obtain ⟨-, -, x2⟩ := HBX.out w3 hb3
    have hbd : Below w1.heap.size w1 w3.drew := hb3.drew
    have nn1 : w3.heap.size ≠ w.heap.size + 2 := by omega
    have nn2 : w.heap.size + 2 ≠ w3.heap.size := by omega
    have nn3 : w.heap.size ≠ w.heap.size + 1 + 1 := by omega
    have nn4 : w.heap.size + 1 + 1 ≠ w.heap.size := by omega
    have nn5 : ¬ w.heap.size = w.heap.size + 1 + 1 := by omega
    have hwr := wrap_small (((n2 : Nat) : Int) - ((K.length : Nat) : Int)) (by omega) (by omega)
    have hzl := hb3.size
    have hz1 := hB1.size
    clear hc hf hb1
    go_wp2_with fail
    go_region_held3 (fun w' => w'.cell? ⟨w.heap.size, 4, none⟩ = some (.slice a3 n2 c3)) (go_keep)
      ((go_at_call 114; refine (HO.out _).mono ?_; rintro e w9 ⟨rfl, hb9⟩; have hb9' : Below w1.heap.size w1 w9 := hbd.trans (hb9.mono hzl); obtain ⟨⟨b0, b1, b2, b3, b4⟩, fz, x3⟩ := HBX.out w9 hb9'; have fz0 := fz 0; have fz1 := fz 1; have fz2 := fz 2; have fz3 := fz 3; have fz4 := fz 4))
    all_goals
      go_wp2_with fail
      refine bodyPost_ret (v := .tuple #[.agg #[.int .i64 fk, .string ⟨#[]⟩, .slice none 0 0, .slice none 0 0, .slice fa fn fc], .int .i64 (((n2 : Nat) : Int) - ((K.length : Nat) : Int)), .int .i64 0]) (by simp [results, Tryz.results45, go_sem, b0, b1, b2, b3, b4]) rfl ⟨_, rfl, ?_, ?_⟩
      · exact fun w'' hw => HI.out w'' (fun g' o' u' hg hu hf => hw g' o' u' (by omega) ((five_apart w9 (w.heap.size + 2) _ _ _ _ _ g' o' (by omega)).trans ((hb9.cell (p := ⟨g', o', none⟩) (World.block_lt_of_cell? w3 _ hu)).trans hu)) (by simp only [World.frozen?_setCell]; exact (hb9.frozen (p := ⟨g', o', none⟩) (World.block_lt_of_cell? w3 _ hu)).trans hf))
      · have hb9'' := hB1.trans (hb9'.mono hz1)
        go_grown
  · rw [dropI, dropN, if_neg h0, if_neg h0]
    have h0' : (asI x 5 == 0) = false := by rw [beq_eq_false_iff_ne]; exact h0
    clear hx2 hl
    generalize asI x 5 = E at *
    generalize x.l = L at *
    generalize x.t = t at *
    generalize x.k = k at *
    generalize x.s.length = n2 at *
    generalize x.p.length = n3 at *
    go_enter Tryz.func45, Tryz.ntmps45
    go_wp2_with fail
    refine (HC.out _ ((((Below.refl _ w).alloc (Nat.le_refl _) _).alloc (by simp) _).alloc (by simp; omega) _)).mono ?_
    rintro e w1 ⟨rfl, hb1⟩
    obtain ⟨hc, hf⟩ := bcell hb1
    have hz : w.heap.size + 2 < w1.heap.size := by have := hb1.size; simp at this; omega
    have hB1 : Below w.heap.size w w1 := ((((Below.refl _ w).alloc (Nat.le_refl _) _).alloc (by simp) _).alloc (by simp; omega) _).trans (hb1.mono (by simp; omega))
    go_wp2_with fail
    refine bodyPost_ret (v := .tuple #[.agg #[.int .i64 0, .string ⟨#[]⟩, .slice none 0 0, .slice none 0 0, .slice none 0 0], .int .i64 0, .int .i64 E]) (by simp [results, Tryz.results45, go_sem, hc]) rfl ⟨_, rfl, fun w'' _ => zero_is w'', ?_⟩
    go_grown
theorem scoreDrop_any (v : Value) (x : Itm) (al : Option Addr) (cl : Nat) (l : List ByteArray) (w : World) (h : ItemIs w v x) (hl : TextsAt w al l) (hll : l.length ≤ 281474976710656) :
    Calls Tryz.prog 45 #[v, .slice al l.length cl] w fun e w' => ∃ u, e = .returned (.tuple #[u, .int .i64 (dropN x l), .int .i64 (asI x 5)]) ∧ ItemFrom w.heap.size w' u (dropI x l) ∧ Below w.heap.size w w' :=
  (scoreDrop_own v x al cl l w h hl hll).mono fun _ _ ⟨u, he, hi, hb⟩ => ⟨u, he, hi.from, hb⟩
end Go.Proofs.YtcidoodaiimhfaaGreat.Z

/- WALKS of scores: Rank, Number. -/
namespace Go.Proofs.YtcidoodaiimhfaaGreat.Z
open Go.RowKit Go.Maps Go.Shelf

def rankE (x : Itm) (f : ByteArray) : Int := if asI x 5 ≠ 0 then asI x 5 else if idxF (memIs f) x.s < 0 then 5 else 0
def rankN (x : Itm) (f : ByteArray) : Int := if rankE x f = 0 then idxF (memIs f) x.s else 0
def numN (x : Itm) (f : ByteArray) : Int := if rankE x f = 0 then (match lastS x.s f with | some p => p.1 | none => 0) else 0
theorem rank_found {x : Itm} {f : ByteArray} (h : rankE x f = 0) : ∃ i, ∃ hi : i < x.s.length, idxF (memIs f) x.s = i ∧ x.s[i].2 = f ∧ rankN x f = i ∧ numN x f = x.s[i].1 := by
  have h0 : asI x 5 = 0 := by
    by_cases h0 : asI x 5 = 0
    · exact h0
    · rw [rankE, if_pos h0] at h; exact h
  have hneg : ¬ idxF (memIs f) x.s < 0 := fun hn => by rw [rankE, if_neg (by simp [h0]), if_pos hn] at h; cases h
  obtain ⟨i, hi⟩ : ∃ i : Nat, idxF (memIs f) x.s = i := ⟨(idxF (memIs f) x.s).toNat, by omega⟩
  obtain ⟨h1, h2, -⟩ := idxF_at hi
  have hm : x.s[i].2 = f := by simpa [memIs] using h2
  have hl : lastS x.s f = some x.s[i] := by
    have := (lastS_once (asI_score h0).o (p := x.s[i])).2 (List.getElem_mem _)
    rwa [hm] at this
  exact ⟨i, h1, hi, hm, by rw [rankN, if_pos h, hi], by rw [numN, if_pos h, hl]⟩
set_option maxRecDepth 100000 in
set_option maxHeartbeats 2000000 in
theorem rank_any (v : Value) (x : Itm) (f : ByteArray) (w : World) (h : ItemIs w v x) :
    Calls Tryz.prog 79 #[v, .string f] w fun e w' => e = .returned (.tuple #[.int .i64 (rankN x f), .int .i64 (rankE x f)]) ∧ Below w.heap.size w w' := by
  have HI := hide h
  obtain ⟨⟨a1, c1, a2, c2, a3, c3, rfl, -, -, hx3⟩, -, -, -, -, -, -, -⟩ := h
  have HX := hide hx3
  have HC : Hid (∀ W, Below w.heap.size w W → Calls Tryz.prog 85 #[.agg #[.int .i64 x.k, .string x.t, .slice a1 x.l.length c1, .slice a2 x.p.length c2, .slice a3 x.s.length c3], .int .i64 5] W fun e w' => e = .returned (.int .i64 (asI x 5)) ∧ Below W.heap.size W w') := fun W hW => common_any _ x 5 W (HI.out.below hW)
  clear hx3 HI
  by_cases h0 : asI x 5 = 0
  · have h24 := (asI_score h0).n
    have eg : ∀ args w, (callFunc 151 args).run Tryz.prog w = .ok (.enter 151 args) w := enters_of Tryz.func151 (by kernel_rfl) rfl
    have HN : Hid (∀ W b, Below w.heap.size w W → W.cell? ⟨b, 0, none⟩ = some (.string f) → Calls Tryz.prog 150 #[.slice a3 x.s.length c3, .func (.func 151) #[] #[.pointer (some ⟨b, 0, none⟩)]] W fun e w' => e = .returned (.int .i64 (idxF (memIs f) x.s)) ∧ Below W.heap.size W w') := fun W b hW hb => idxP_any 151 #[.pointer (some ⟨b, 0, none⟩)] eg (memIs f) a3 c3 x.s W (HX.out.below hW) (by omega) (fun V y hV => (rankFn_any b f y V ((hV.cell (p := ⟨b, 0, none⟩) (World.block_lt_of_cell? _ _ hb)).trans hb)).mono fun e w' ⟨h1, h2⟩ => ⟨h1, hV.trans (h2.mono hV.size)⟩)
    rw [h0] at HC
    obtain ⟨GN, GE, hGN, hGE, HG⟩ : ∃ GN GE, GN = rankN x f ∧ GE = rankE x f ∧ Hid ((idxF (memIs f) x.s < 0 → GN = 0 ∧ GE = 5) ∧ (¬ idxF (memIs f) x.s < 0 → GN = idxF (memIs f) x.s ∧ GE = 0)) := by
      refine ⟨_, _, rfl, rfl, fun hn => ?_, fun hn => ?_⟩
      · have e : rankE x f = 5 := by rw [rankE, if_neg (by simp [h0]), if_pos hn]
        exact ⟨by rw [rankN, e, if_neg (by decide)], e⟩
      · have e : rankE x f = 0 := by rw [rankE, if_neg (by simp [h0]), if_neg hn]
        exact ⟨by rw [rankN, if_pos e], e⟩
    rw [← hGN, ← hGE]
    clear hGN hGE h0 h24 eg
    generalize idxF (memIs f) x.s = I at *
    go_enter Tryz.func79, Tryz.ntmps79
    go_wp2_with fail
    have C0 : Below w.heap.size w ((w.alloc (.cells #[.int .i64 x.k, .string x.t, .slice a1 x.l.length c1, .slice a2 x.p.length c2, .slice a3 x.s.length c3] 28)).alloc (.cells #[.string f] 9)) := ((Below.refl _ w).alloc (Nat.le_refl _) _).alloc (by simp) _
    refine (HC.out _ C0).mono ?_
    rintro e w1 ⟨rfl, hb1⟩
    have C1 := C0.trans (hb1.mono C0.size)
    obtain ⟨hc, hf⟩ := bcell hb1
    have hz : w.heap.size + 1 < w1.heap.size := by have := hb1.size; simp at this; omega
    have hz0 : w.heap.size < w1.heap.size := by omega
    have q2 : w1.cell? ⟨w.heap.size, 4, none⟩ = some (.slice a3 x.s.length c3) := (hc _ _ (by simp; omega)).trans (by simp [go_sem])
    have qf : w1.cell? ⟨w.heap.size + 1, 0, none⟩ = some (.string f) := (hc _ _ (by simp)).trans (by simp [go_sem])
    clear hc hf hb1
    go_wp2_with fail
    refine (HN.out _ _ C1 qf).mono ?_
    rintro e w2 ⟨rfl, hb2⟩
    have C2 := C1.trans (hb2.mono C1.size)
    by_cases hneg : I < 0
    · have HE := hide (HG.out.1 hneg)
      clear HG
      go_wp2_with fail
      refine bodyPost_ret (v := .tuple #[.int .i64 0, .int .i64 5]) (by simp [results, Tryz.results79, go_sem]) rfl ⟨?_, C2⟩
      rw [HE.out.1, HE.out.2]
    · have HE := hide (HG.out.2 (by omega))
      clear HG
      go_wp2_with fail
      refine bodyPost_ret (v := .tuple #[.int .i64 I, .int .i64 0]) (by simp [results, Tryz.results79, go_sem]) rfl ⟨?_, C2⟩
      rw [HE.out.1, HE.out.2]
  · have e : rankE x f = asI x 5 := by rw [rankE, if_pos h0]
    rw [rankN, e, if_neg h0]
    clear e
    have h0' : (asI x 5 == 0) = false := by rw [beq_eq_false_iff_ne]; exact h0
    generalize asI x 5 = E at *
    go_enter Tryz.func79, Tryz.ntmps79
    go_wp2_with fail
    have C0 : Below w.heap.size w ((w.alloc (.cells #[.int .i64 x.k, .string x.t, .slice a1 x.l.length c1, .slice a2 x.p.length c2, .slice a3 x.s.length c3] 28)).alloc (.cells #[.string f] 9)) := ((Below.refl _ w).alloc (Nat.le_refl _) _).alloc (by simp) _
    refine (HC.out _ C0).mono ?_
    rintro e w1 ⟨rfl, hb1⟩
    have C1 := C0.trans (hb1.mono C0.size)
    go_wp2_with fail
    refine bodyPost_ret (v := .tuple #[.int .i64 0, .int .i64 E]) (by simp [results, Tryz.results79, go_sem]) rfl ⟨rfl, C1⟩
set_option maxRecDepth 100000 in
set_option maxHeartbeats 2000000 in
theorem number_any (v : Value) (x : Itm) (f : ByteArray) (w : World) (h : ItemIs w v x) :
    Calls Tryz.prog 80 #[v, .string f] w fun e w' => e = .returned (.tuple #[.int .i64 (numN x f), .int .i64 (rankE x f)]) ∧ Below w.heap.size w w' := by
  have HR : Hid (∀ W, Below w.heap.size w W → Calls Tryz.prog 79 #[v, .string f] W fun e w' => e = .returned (.tuple #[.int .i64 (rankN x f), .int .i64 (rankE x f)]) ∧ Below W.heap.size W w') := fun W hW => rank_any v x f W (h.below hW)
  obtain ⟨⟨a1, c1, a2, c2, a3, c3, rfl, -, -, hx3⟩, -, -, -, -, -, -, -⟩ := h
  have HX := hide hx3
  clear hx3
  by_cases hE : rankE x f = 0
  · obtain ⟨i, hi, -, -, h1, h2⟩ := rank_found hE
    rw [hE, h1] at HR
    obtain ⟨g, o, rfl, hcs⟩ : ∃ g o, a3 = some ⟨g, o, none⟩ ∧ ∀ i (h : i < x.s.length), w.cell? ⟨g, o + i * 2, none⟩ = some (.int .i64 x.s[i].1) ∧ w.cell? ⟨g, o + i * 2 + 1, none⟩ = some (.string x.s[i].2) := by
      rcases HX.out with h | h
      · rw [h] at hi; simp at hi
      · exact h
    have d0 := (hcs i hi).1
    have hg := World.block_lt_of_cell? _ _ d0
    have hi' : ((i : Nat) : Int) < ((x.s.length : Nat) : Int) := by omega
    rw [hE, h2]
    clear hcs HX h1 h2 hE
    generalize x.s[i].1 = Z at *
    go_enter Tryz.func80, Tryz.ntmps80
    go_wp2_with fail
    have C0 : Below w.heap.size w (w.alloc (.cells #[.int .i64 x.k, .string x.t, .slice a1 x.l.length c1, .slice a2 x.p.length c2, .slice (some ⟨g, o, none⟩) x.s.length c3] 28)) := (Below.refl _ w).alloc (Nat.le_refl _) _
    refine (HR.out _ C0).mono ?_
    rintro e w1 ⟨rfl, hb1⟩
    have C1 := C0.trans (hb1.mono C0.size)
    obtain ⟨hc, hf⟩ := bcell hb1
    have q2 : w1.cell? ⟨w.heap.size, 4, none⟩ = some (.slice (some ⟨g, o, none⟩) x.s.length c3) := (hc _ _ (by simp)).trans (by simp [go_sem])
    have e0 := (C1.cell (p := ⟨g, o + i * 2, none⟩) hg).trans d0
    clear hc hf hb1 d0
    go_wp2_with fail
    refine bodyPost_ret (v := .tuple #[.int .i64 Z, .int .i64 0]) (by simp [results, Tryz.results80, go_sem]) rfl ⟨rfl, C1⟩
  · have e1 : numN x f = 0 := by rw [numN, if_neg hE]
    rw [e1]
    have hE' : (rankE x f == 0) = false := by rw [beq_eq_false_iff_ne]; exact hE
    clear e1 HX
    generalize rankE x f = E at *
    generalize rankN x f = N at *
    go_enter Tryz.func80, Tryz.ntmps80
    go_wp2_with fail
    have C0 : Below w.heap.size w (w.alloc (.cells #[.int .i64 x.k, .string x.t, .slice a1 x.l.length c1, .slice a2 x.p.length c2, .slice a3 x.s.length c3] 28)) := (Below.refl _ w).alloc (Nat.le_refl _) _
    refine (HR.out _ C0).mono ?_
    rintro e w1 ⟨rfl, hb1⟩
    have C1 := C0.trans (hb1.mono C0.size)
    go_wp2_with fail
    refine bodyPost_ret (v := .tuple #[.int .i64 0, .int .i64 E]) (by simp [results, Tryz.results80, go_sem]) rfl ⟨rfl, C1⟩
end Go.Proofs.YtcidoodaiimhfaaGreat.Z

/- Rows of texts of one's own; the members that are asked for. -/
namespace Go.Proofs.YtcidoodaiimhfaaGreat.Z
open Go.RowKit

theorem infoStr : (Tryz.prog.info? 9).map (fun i => (i.zero, i.size, i.bytes)) = some (some (.string ⟨#[]⟩), 1, 16) := by kernel_rfl
def strs (l : List ByteArray) : List Value := l.map Value.string
theorem texts_own {w : World} {base : Nat} {a : Option Addr} {cap : Nat} {xs : List ByteArray} (h : w.ownsRow base 9 1 (.slice a xs.length cap) xs.length (strs xs)) : TextsAt w a xs := by
  rcases h.2 with ⟨hv, h0⟩ | ⟨g, cp, cur, hv, _⟩
  · exact .inl (List.eq_nil_of_length_eq_zero h0)
  · injection hv with h1 h2 h3
    subst h1
    refine .inr ⟨g, 0, rfl, fun i hi => ?_⟩
    have := h.cellAt i (by omega)
    rw [Nat.zero_add, this]
    simp [strs, hi]
theorem texts_from {w w' : World} {base : Nat} {a : Option Addr} {cap : Nat} {xs : List ByteArray} (h : w.ownsRow base 9 1 (.slice a xs.length cap) xs.length (strs xs)) (hw : ∀ g o u, base ≤ g → w.cell? ⟨g, o, none⟩ = some u → w'.cell? ⟨g, o, none⟩ = some u) : TextsAt w' a xs := by
  rcases h.2 with ⟨hv, h0⟩ | ⟨g, cp, cur, hv, hg, _⟩
  · exact .inl (List.eq_nil_of_length_eq_zero h0)
  · injection hv with h1 h2 h3
    subst h1
    refine .inr ⟨g, 0, rfl, fun i hi => ?_⟩
    have := h.cellAt i (by omega)
    refine hw _ _ _ hg ?_
    rw [Nat.zero_add, this]
    simp [strs, hi]
theorem textsOwn_low {B C : Nat} {w : World} {a : Option Addr} {l : List ByteArray} (h : TextsOwn B w a l) (hC : C ≤ B) : TextsOwn C w a l := fun w' hw => h w' (fun g o u hg hu hf => hw g o u (Nat.le_trans hC hg) hu hf)
theorem textsOwn_row {w : World} {base : Nat} {a : Option Addr} {cap : Nat} {xs : List ByteArray} (h : w.ownsRow base 9 1 (.slice a xs.length cap) xs.length (strs xs)) : TextsOwn base w a xs := fun w' hw => by
  rcases h.2 with ⟨hv, h0⟩ | ⟨g, cp, cur, hv, hg, hh, _⟩
  · exact .inl (List.eq_nil_of_length_eq_zero h0)
  · injection hv with h1 h2 h3
    subst h1
    refine .inr ⟨g, 0, rfl, fun i hi => ?_⟩
    have := h.cellAt i (by omega)
    refine hw _ _ _ hg ?_ (by simp [World.frozen?, hh])
    rw [Nat.zero_add, this]
    simp [strs, hi]
theorem slice_own {w : World} {b e s : Nat} {v : Value} {n : Nat} {xs : List Value} (h : w.ownsRow b e s v n xs) : ∃ ao cp, v = .slice ao n cp := by
  rcases h.2 with ⟨rfl, rfl⟩ | ⟨g, cap, cur, rfl, _⟩
  · exact ⟨none, 0, rfl⟩
  · exact ⟨_, _, rfl⟩
theorem TextsFrom.low {w : World} {b1 b2 e s : Nat} {v : Value} {n : Nat} {xs : List Value} (h : w.ownsRow b1 e s v n xs) (hb : b2 ≤ b1) : w.ownsRow b2 e s v n xs := by
  rcases h with ⟨h1, h2 | ⟨g, cap, cur, h3, h4, h5⟩⟩
  · exact ⟨h1, .inl h2⟩
  · exact ⟨h1, .inr ⟨g, cap, cur, h3, Nat.le_trans hb h4, h5⟩⟩
/-- members of the first k that are asked for, by place and number -/
def askTo (p : Nat → Int → Bool) (l : List Sc) (k : Nat) : List ByteArray := ((List.range k).filter fun i => p i l[i]!.1).map fun i => l[i]!.2
theorem askTo_yes {p : Nat → Int → Bool} {l : List Sc} {k : Nat} (hk : k < l.length) (h : p k l[k].1 = true) : askTo p l (k + 1) = askTo p l k ++ [l[k].2] := by
  unfold askTo
  rw [List.range_succ, List.filter_append, List.map_append]
  simp [hk, h]
theorem askTo_no {p : Nat → Int → Bool} {l : List Sc} {k : Nat} (hk : k < l.length) (h : p k l[k].1 = false) : askTo p l (k + 1) = askTo p l k := by
  unfold askTo
  rw [List.range_succ, List.filter_append, List.map_append]
  simp [hk, h]
theorem askTo_len (p : Nat → Int → Bool) (l : List Sc) (k : Nat) : (askTo p l k).length ≤ k := by
  unfold askTo
  rw [List.length_map]
  exact Nat.le_trans (List.length_filter_le _ _) (by simp)
end Go.Proofs.YtcidoodaiimhfaaGreat.Z

/- WALKS of scores: those that are asked for; Range, Within. -/
namespace Go.Proofs.YtcidoodaiimhfaaGreat.Z
open Go.RowKit

/-- what is asked for, if it is an item of scores -/
def askS (p : Nat → Int → Bool) (x : Itm) : List ByteArray := if asI x 5 = 0 then askTo p x.s x.s.length else []
theorem askS_len (p : Nat → Int → Bool) (x : Itm) : (askS p x).length ≤ 24 := by
  unfold askS
  split
  · rename_i h0
    exact Nat.le_trans (askTo_len _ _ _) (asI_score h0).n
  · simp
def byPlace (n : Nat) (f t : Int) : Nat → Int → Bool := fun i _ => decide (place1 n f t ≤ i) && decide (i < place2 n f t)
def byNumber (least most : Int) : Nat → Int → Bool := fun _ m => decide (least ≤ m) && decide (m ≤ most)
set_option maxRecDepth 100000 in
theorem fnRange_any (b1 b2 : Nat) (F B : Int) (i : Nat) (m : Int) (W : World) (h1 : W.cell? ⟨b1, 0, none⟩ = some (.int .i64 F)) (h2 : W.cell? ⟨b2, 0, none⟩ = some (.int .i64 B)) :
    Calls Tryz.prog 119 #[.int .i64 i, .int .i64 m, .pointer (some ⟨b1, 0, none⟩), .pointer (some ⟨b2, 0, none⟩)] W fun e w' => e = .returned (.bool (decide (F ≤ ((i : Nat) : Int)) && decide (((i : Nat) : Int) < B))) ∧ Below W.heap.size W w' := by
  by_cases hc : F ≤ ((i : Nat) : Int)
  · rw [decide_eq_true hc, Bool.true_and]
    go_enter Tryz.func119, Tryz.ntmps119
    go_wp2_with fail
    go_ret
    exact ⟨rfl, Below.refl _ _⟩
  · rw [decide_eq_false hc, Bool.false_and]
    go_enter Tryz.func119, Tryz.ntmps119
    go_wp2_with fail
    go_ret
    exact ⟨rfl, Below.refl _ _⟩
set_option maxRecDepth 100000 in
set_option maxHeartbeats 4000000 in
theorem thoseRange_any (v : Value) (x : Itm) (b1 b2 : Nat) (p : Nat → Int → Bool) (w : World) (h : ItemIs w v x)
    (hp : ∀ (i : Nat) (m : Int) (W : World), Below w.heap.size w W → Calls Tryz.prog 119 #[.int .i64 i, .int .i64 m, .pointer (some ⟨b1, 0, none⟩), .pointer (some ⟨b2, 0, none⟩)] W fun e w' => e = .returned (.bool (p i m)) ∧ Below W.heap.size W w') :
    Calls Tryz.prog 118 #[v, .func (.func 119) #[] #[.pointer (some ⟨b1, 0, none⟩), .pointer (some ⟨b2, 0, none⟩)]] w fun e w' => ∃ a c, e = .returned (.tuple #[.slice a (askS p x).length c, .int .i64 (asI x 5)]) ∧ TextsOwn w.heap.size w' a (askS p x) ∧ Below w.heap.size w w' := by
  have HC : Hid (∀ W, Below w.heap.size w W → Calls Tryz.prog 85 #[v, .int .i64 5] W fun e w' => e = .returned (.int .i64 (asI x 5)) ∧ Below W.heap.size W w') := fun W hW => common_any v x 5 W (h.below hW)
  obtain ⟨⟨a1, c1, a2, c2, a3, c3, rfl, -, -, hx3⟩, -, -, -, -, -, -, -⟩ := h
  have HX := hide hx3
  have HP := hide hp
  clear hx3 hp
  obtain ⟨i0, hi, hz0, hz1, hz2⟩ := info_parts infoStr
  by_cases h0 : asI x 5 = 0
  · have h24 := (asI_score h0).n
    have HK : Hid (askS p x = askTo p x.s x.s.length) := by rw [Hid, askS, if_pos h0]
    rw [HK.out, h0]
    rw [h0] at HC
    clear HK h0
    generalize x.s = L at *
    generalize x.l.length = n1 at *
    generalize x.p.length = n2 at *
    generalize x.t = t at *
    generalize x.k = k at *
    go_enter Tryz.func118, Tryz.ntmps118
    go_wp2_with fail
    have C0 : Below w.heap.size w (w.alloc (.cells #[.int .i64 k, .string t, .slice a1 n1 c1, .slice a2 n2 c2, .slice a3 L.length c3] 28)) := (Below.refl _ w).alloc (Nat.le_refl _) _
    refine (HC.out _ C0).mono ?_
    rintro e w1 ⟨rfl, hb1⟩
    have C1 := C0.trans (hb1.mono C0.size)
    obtain ⟨hc, hf⟩ := bcell hb1
    have q2 : w1.cell? ⟨w.heap.size, 4, none⟩ = some (.slice a3 L.length c3) := (hc _ _ (by simp)).trans (by simp [go_sem])
    have hz1' := C1.size
    clear hc hf hb1 C0 HC
    go_wp2_with fail
    go_loopw [7, 18] (fun u iv wr => ∃ q : Nat, q ≤ L.length ∧ iv = .int .i64 q ∧ wr.ownsRow w1.heap.size 9 1 u (askTo p L q).length (strs (askTo p L q)) ∧ Below w1.heap.size w1 wr) (fun _ iv _ => L.length - (intOf iv).toNat)
    case atStart => exact ⟨0, Nat.zero_le _, rfl, World.ownsRow_nil _ _ _ _, Below.refl _ _⟩
    case round =>
      obtain ⟨q, hq, rfl, hown, hbr⟩ := hrel
      have hsz := hbr.size
      have hBr : Below w.heap.size w wr := C1.trans (hbr.mono hz1')
      by_cases hlt : q < L.length
      · have hlt' : ((q : Nat) : Int) < ((L.length : Nat) : Int) := by omega
        obtain ⟨g, o, rfl, hcs⟩ : ∃ g o, a3 = some ⟨g, o, none⟩ ∧ ∀ i (h : i < L.length), w.cell? ⟨g, o + i * 2, none⟩ = some (.int .i64 L[i].1) ∧ w.cell? ⟨g, o + i * 2 + 1, none⟩ = some (.string L[i].2) := by
          rcases HX.out with h | h
          · rw [h] at hlt; simp at hlt
          · exact h
        have d0 := (hBr.cell (p := ⟨g, o + q * 2, none⟩) (World.block_lt_of_cell? _ _ (hcs q hlt).1)).trans (hcs q hlt).1
        have d1 := (hBr.cell (p := ⟨g, o + q * 2 + 1, none⟩) (World.block_lt_of_cell? _ _ (hcs q hlt).2)).trans (hcs q hlt).2
        have hql := askTo_len p L q
        have HY : Hid (p q L[q].1 = true → askTo p L (q + 1) = askTo p L q ++ [L[q].2]) := askTo_yes hlt
        have HN : Hid (p q L[q].1 = false → askTo p L (q + 1) = askTo p L q) := askTo_no hlt
        clear hcs HX
        generalize L[q] = X at *
        obtain ⟨X1, X2⟩ := X
        dsimp only at d0 d1 HY HN
        have HF : Hid (∀ W, Below w1.heap.size w1 W → Calls Tryz.prog 119 #[.int .i64 q, .int .i64 X1, .pointer (some ⟨b1, 0, none⟩), .pointer (some ⟨b2, 0, none⟩)] W fun e w' => e = .returned (.bool (p q X1)) ∧ Below W.heap.size W w') := fun W hW => HP.out q X1 W (C1.trans (hW.mono hz1'))
        clear HP
        have CA := hbr.alloc hsz (.cells #[.int .i64 X1, .string X2] 89)
        cases hx : p q X1 with
        | true =>
          have HY2 := hide (HY.out hx)
          rw [hx] at HF
          clear HY HN hx
          go_wp2_with fail
          refine (HF.out _ CA).mono ?_
          rintro e w5 ⟨rfl, hb5⟩
          have C5 := CA.trans (hb5.mono CA.size)
          have own5 := (Kept.of_below ((Below.refl _ wr).alloc (Nat.le_refl _) (.cells #[.int .i64 X1, .string X2] 89) |>.trans (hb5.mono (by simp))) (fun _ => False)).owns hown (fun _ _ e => e)
          have x0 : w5.cell? ⟨wr.heap.size, 0, none⟩ = some (.int .i64 X1) := (hb5.cell (p := ⟨wr.heap.size, 0, none⟩) (by simp)).trans (by simp [go_sem])
          have x1 : w5.cell? ⟨wr.heap.size, 1, none⟩ = some (.string X2) := (hb5.cell (p := ⟨wr.heap.size, 1, none⟩) (by simp)).trans (by simp [go_sem])
          have hsz5 := C5.size
          clear hb5 CA hown hbr d0 d1
          go_wp2_with (at_builtin; refine wpList_append_own _ rfl _ _ 24 rfl w1.heap.size 9 i0 (.string ⟨#[]⟩) 1 16 Tryz.underlying24 hi hz0 hz1 hz2 rfl (by decide) _ _ _ rfl (own5.alloc _) ⟨w5.heap.size, 0, none⟩ 1 1 [.string X2] rfl rfl ?c1 ?c2 ?c3 ?c4 ?c5 ?_)
          case c1 =>
            intro j u hj
            match j, hj with
            | 0, hj => simp at hj; subst hj; simp [Addr.add]
          case c2 => first | rfl | (intro u hu; simp at hu; subst hu; rfl)
          case c3 => unfold maxLen; omega
          case c4 => omega
          case c5 => first | omega | (simp; omega)
          intro v4 w4 hw4 hgrow _
          have hb4 : Below w1.heap.size w1 w4 := (C5.alloc hsz5 _).grown hgrow (by simp; omega) (fun j hj => (own5.lt j hj).1)
          have own4 : w4.ownsRow w1.heap.size 9 1 v4 (askTo p L (q + 1)).length (strs (askTo p L (q + 1))) := by
            rw [HY2.out, List.length_append]
            simpa [strs] using hw4
          clear hw4 hgrow own5 C5
          go_wp2_with fail
          go_roundw
          case rel => exact ⟨q + 1, by omega, by go_num, own4, hb4⟩
          case measure => simp [intOf]; omega
        | false =>
          have HY2 := hide (HN.out hx)
          rw [hx] at HF
          clear HY HN hx
          go_wp2_with fail
          refine (HF.out _ CA).mono ?_
          rintro e w5 ⟨rfl, hb5⟩
          have C5 := CA.trans (hb5.mono CA.size)
          have own5 := (Kept.of_below ((Below.refl _ wr).alloc (Nat.le_refl _) (.cells #[.int .i64 X1, .string X2] 89) |>.trans (hb5.mono (by simp))) (fun _ => False)).owns hown (fun _ _ e => e)
          clear hb5 CA hown hbr d0 d1
          go_wp2_with fail
          go_roundw
          case rel => exact ⟨q + 1, by omega, by go_num, by rw [HY2.out]; exact own5, C5⟩
          case measure => simp [intOf]; omega
      · have hge : ¬ ((q : Nat) : Int) < ((L.length : Nat) : Int) := by omega
        obtain rfl : q = L.length := by omega
        obtain ⟨ao, cp, rfl⟩ := slice_own hown
        have HT := hide (textsOwn_low (textsOwn_row hown) hz1')
        clear hown HX HP
        go_wp2_with fail
        refine bodyPost_ret (v := .tuple #[.slice ao (askTo p L L.length).length cp, .int .i64 0]) (by simp [results, Tryz.results118, go_sem]) rfl ?_
        exact ⟨ao, ⟨cp, rfl⟩, HT.out, hBr⟩
  · have HK : Hid (askS p x = []) := by rw [Hid, askS, if_neg h0]
    rw [HK.out]
    have h0' : (asI x 5 == 0) = false := by rw [beq_eq_false_iff_ne]; exact h0
    clear HK HX HP
    generalize asI x 5 = E at *
    generalize x.s.length = n3 at *
    generalize x.l.length = n1 at *
    generalize x.p.length = n2 at *
    generalize x.t = t at *
    generalize x.k = k at *
    go_enter Tryz.func118, Tryz.ntmps118
    go_wp2_with fail
    have C0 : Below w.heap.size w (w.alloc (.cells #[.int .i64 k, .string t, .slice a1 n1 c1, .slice a2 n2 c2, .slice a3 n3 c3] 28)) := (Below.refl _ w).alloc (Nat.le_refl _) _
    refine (HC.out _ C0).mono ?_
    rintro e w1 ⟨rfl, hb1⟩
    have C1 := C0.trans (hb1.mono C0.size)
    go_wp2_with fail
    refine bodyPost_ret (v := .tuple #[.slice none 0 0, .int .i64 E]) (by simp [results, Tryz.results118, go_sem]) rfl ⟨none, 0, rfl, fun _ _ => TextsAt.nil _, C1⟩
set_option maxRecDepth 100000 in
theorem fnWithin_any (b1 b2 : Nat) (F B : Int) (i : Nat) (m : Int) (W : World) (h1 : W.cell? ⟨b1, 0, none⟩ = some (.int .i64 F)) (h2 : W.cell? ⟨b2, 0, none⟩ = some (.int .i64 B)) :
    Calls Tryz.prog 152 #[.int .i64 i, .int .i64 m, .pointer (some ⟨b1, 0, none⟩), .pointer (some ⟨b2, 0, none⟩)] W fun e w' => e = .returned (.bool (decide (F ≤ m) && decide (m ≤ B))) ∧ Below W.heap.size W w' := by
  by_cases hc : F ≤ m
  · rw [decide_eq_true hc, Bool.true_and]
    go_enter Tryz.func152, Tryz.ntmps152
    go_wp2_with fail
    go_ret
    exact ⟨rfl, Below.refl _ _⟩
  · rw [decide_eq_false hc, Bool.false_and]
    go_enter Tryz.func152, Tryz.ntmps152
    go_wp2_with fail
    go_ret
    exact ⟨rfl, Below.refl _ _⟩
set_option maxRecDepth 100000 in
set_option maxHeartbeats 4000000 in
theorem thoseWithin_any (v : Value) (x : Itm) (b1 b2 : Nat) (p : Nat → Int → Bool) (w : World) (h : ItemIs w v x)
    (hp : ∀ (i : Nat) (m : Int) (W : World), Below w.heap.size w W → Calls Tryz.prog 152 #[.int .i64 i, .int .i64 m, .pointer (some ⟨b1, 0, none⟩), .pointer (some ⟨b2, 0, none⟩)] W fun e w' => e = .returned (.bool (p i m)) ∧ Below W.heap.size W w') :
    Calls Tryz.prog 118 #[v, .func (.func 152) #[] #[.pointer (some ⟨b1, 0, none⟩), .pointer (some ⟨b2, 0, none⟩)]] w fun e w' => ∃ a c, e = .returned (.tuple #[.slice a (askS p x).length c, .int .i64 (asI x 5)]) ∧ TextsOwn w.heap.size w' a (askS p x) ∧ Below w.heap.size w w' := by
  have HC : Hid (∀ W, Below w.heap.size w W → Calls Tryz.prog 85 #[v, .int .i64 5] W fun e w' => e = .returned (.int .i64 (asI x 5)) ∧ Below W.heap.size W w') := fun W hW => common_any v x 5 W (h.below hW)
  obtain ⟨⟨a1, c1, a2, c2, a3, c3, rfl, -, -, hx3⟩, -, -, -, -, -, -, -⟩ := h
  have HX := hide hx3
  have HP := hide hp
  clear hx3 hp
  obtain ⟨i0, hi, hz0, hz1, hz2⟩ := info_parts infoStr
  by_cases h0 : asI x 5 = 0
  · have h24 := (asI_score h0).n
    have HK : Hid (askS p x = askTo p x.s x.s.length) := by rw [Hid, askS, if_pos h0]
    rw [HK.out, h0]
    rw [h0] at HC
    clear HK h0
    generalize x.s = L at *
    generalize x.l.length = n1 at *
    generalize x.p.length = n2 at *
    generalize x.t = t at *
    generalize x.k = k at *
    go_enter Tryz.func118, Tryz.ntmps118
    go_wp2_with fail
    have C0 : Below w.heap.size w (w.alloc (.cells #[.int .i64 k, .string t, .slice a1 n1 c1, .slice a2 n2 c2, .slice a3 L.length c3] 28)) := (Below.refl _ w).alloc (Nat.le_refl _) _
    refine (HC.out _ C0).mono ?_
    rintro e w1 ⟨rfl, hb1⟩
    have C1 := C0.trans (hb1.mono C0.size)
    obtain ⟨hc, hf⟩ := bcell hb1
    have q2 : w1.cell? ⟨w.heap.size, 4, none⟩ = some (.slice a3 L.length c3) := (hc _ _ (by simp)).trans (by simp [go_sem])
    have hz1' := C1.size
    clear hc hf hb1 C0 HC
    go_wp2_with fail
    go_loopw [7, 18] (fun u iv wr => ∃ q : Nat, q ≤ L.length ∧ iv = .int .i64 q ∧ wr.ownsRow w1.heap.size 9 1 u (askTo p L q).length (strs (askTo p L q)) ∧ Below w1.heap.size w1 wr) (fun _ iv _ => L.length - (intOf iv).toNat)
    case atStart => exact ⟨0, Nat.zero_le _, rfl, World.ownsRow_nil _ _ _ _, Below.refl _ _⟩
    case round =>
      obtain ⟨q, hq, rfl, hown, hbr⟩ := hrel
      have hsz := hbr.size
      have hBr : Below w.heap.size w wr := C1.trans (hbr.mono hz1')
      by_cases hlt : q < L.length
      · have hlt' : ((q : Nat) : Int) < ((L.length : Nat) : Int) := by omega
        obtain ⟨g, o, rfl, hcs⟩ : ∃ g o, a3 = some ⟨g, o, none⟩ ∧ ∀ i (h : i < L.length), w.cell? ⟨g, o + i * 2, none⟩ = some (.int .i64 L[i].1) ∧ w.cell? ⟨g, o + i * 2 + 1, none⟩ = some (.string L[i].2) := by
          rcases HX.out with h | h
          · rw [h] at hlt; simp at hlt
          · exact h
        have d0 := (hBr.cell (p := ⟨g, o + q * 2, none⟩) (World.block_lt_of_cell? _ _ (hcs q hlt).1)).trans (hcs q hlt).1
        have d1 := (hBr.cell (p := ⟨g, o + q * 2 + 1, none⟩) (World.block_lt_of_cell? _ _ (hcs q hlt).2)).trans (hcs q hlt).2
        have hql := askTo_len p L q
        have HY : Hid (p q L[q].1 = true → askTo p L (q + 1) = askTo p L q ++ [L[q].2]) := askTo_yes hlt
        have HN : Hid (p q L[q].1 = false → askTo p L (q + 1) = askTo p L q) := askTo_no hlt
        clear hcs HX
        generalize L[q] = X at *
        obtain ⟨X1, X2⟩ := X
        dsimp only at d0 d1 HY HN
        have HF : Hid (∀ W, Below w1.heap.size w1 W → Calls Tryz.prog 152 #[.int .i64 q, .int .i64 X1, .pointer (some ⟨b1, 0, none⟩), .pointer (some ⟨b2, 0, none⟩)] W fun e w' => e = .returned (.bool (p q X1)) ∧ Below W.heap.size W w') := fun W hW => HP.out q X1 W (C1.trans (hW.mono hz1'))
        clear HP
        have CA := hbr.alloc hsz (.cells #[.int .i64 X1, .string X2] 89)
        cases hx : p q X1 with
        | true =>
          have HY2 := hide (HY.out hx)
          rw [hx] at HF
          clear HY HN hx
          go_wp2_with fail
          refine (HF.out _ CA).mono ?_
          rintro e w5 ⟨rfl, hb5⟩
          have C5 := CA.trans (hb5.mono CA.size)
          have own5 := (Kept.of_below ((Below.refl _ wr).alloc (Nat.le_refl _) (.cells #[.int .i64 X1, .string X2] 89) |>.trans (hb5.mono (by simp))) (fun _ => False)).owns hown (fun _ _ e => e)
          have x0 : w5.cell? ⟨wr.heap.size, 0, none⟩ = some (.int .i64 X1) := (hb5.cell (p := ⟨wr.heap.size, 0, none⟩) (by simp)).trans (by simp [go_sem])
          have x1 : w5.cell? ⟨wr.heap.size, 1, none⟩ = some (.string X2) := (hb5.cell (p := ⟨wr.heap.size, 1, none⟩) (by simp)).trans (by simp [go_sem])
          have hsz5 := C5.size
          clear hb5 CA hown hbr d0 d1
          go_wp2_with (at_builtin; refine wpList_append_own _ rfl _ _ 24 rfl w1.heap.size 9 i0 (.string ⟨#[]⟩) 1 16 Tryz.underlying24 hi hz0 hz1 hz2 rfl (by decide) _ _ _ rfl (own5.alloc _) ⟨w5.heap.size, 0, none⟩ 1 1 [.string X2] rfl rfl ?c1 ?c2 ?c3 ?c4 ?c5 ?_)
          case c1 =>
            intro j u hj
            match j, hj with
            | 0, hj => simp at hj; subst hj; simp [Addr.add]
          case c2 => first | rfl | (intro u hu; simp at hu; subst hu; rfl)
          case c3 => unfold maxLen; omega
          case c4 => omega
          case c5 => first | omega | (simp; omega)
          intro v4 w4 hw4 hgrow _
          have hb4 : Below w1.heap.size w1 w4 := (C5.alloc hsz5 _).grown hgrow (by simp; omega) (fun j hj => (own5.lt j hj).1)
          have own4 : w4.ownsRow w1.heap.size 9 1 v4 (askTo p L (q + 1)).length (strs (askTo p L (q + 1))) := by
            rw [HY2.out, List.length_append]
            simpa [strs] using hw4
          clear hw4 hgrow own5 C5
          go_wp2_with fail
          go_roundw
          case rel => exact ⟨q + 1, by omega, by go_num, own4, hb4⟩
          case measure => simp [intOf]; omega
        | false =>
          have HY2 := hide (HN.out hx)
          rw [hx] at HF
          clear HY HN hx
          go_wp2_with fail
          refine (HF.out _ CA).mono ?_
          rintro e w5 ⟨rfl, hb5⟩
          have C5 := CA.trans (hb5.mono CA.size)
          have own5 := (Kept.of_below ((Below.refl _ wr).alloc (Nat.le_refl _) (.cells #[.int .i64 X1, .string X2] 89) |>.trans (hb5.mono (by simp))) (fun _ => False)).owns hown (fun _ _ e => e)
          clear hb5 CA hown hbr d0 d1
          go_wp2_with fail
          go_roundw
          case rel => exact ⟨q + 1, by omega, by go_num, by rw [HY2.out]; exact own5, C5⟩
          case measure => simp [intOf]; omega
      · have hge : ¬ ((q : Nat) : Int) < ((L.length : Nat) : Int) := by omega
        obtain rfl : q = L.length := by omega
        obtain ⟨ao, cp, rfl⟩ := slice_own hown
        have HT := hide (textsOwn_low (textsOwn_row hown) hz1')
        clear hown HX HP
        go_wp2_with fail
        refine bodyPost_ret (v := .tuple #[.slice ao (askTo p L L.length).length cp, .int .i64 0]) (by simp [results, Tryz.results118, go_sem]) rfl ?_
        exact ⟨ao, ⟨cp, rfl⟩, HT.out, hBr⟩
  · have HK : Hid (askS p x = []) := by rw [Hid, askS, if_neg h0]
    rw [HK.out]
    have h0' : (asI x 5 == 0) = false := by rw [beq_eq_false_iff_ne]; exact h0
    clear HK HX HP
    generalize asI x 5 = E at *
    generalize x.s.length = n3 at *
    generalize x.l.length = n1 at *
    generalize x.p.length = n2 at *
    generalize x.t = t at *
    generalize x.k = k at *
    go_enter Tryz.func118, Tryz.ntmps118
    go_wp2_with fail
    have C0 : Below w.heap.size w (w.alloc (.cells #[.int .i64 k, .string t, .slice a1 n1 c1, .slice a2 n2 c2, .slice a3 n3 c3] 28)) := (Below.refl _ w).alloc (Nat.le_refl _) _
    refine (HC.out _ C0).mono ?_
    rintro e w1 ⟨rfl, hb1⟩
    have C1 := C0.trans (hb1.mono C0.size)
    go_wp2_with fail
    refine bodyPost_ret (v := .tuple #[.slice none 0 0, .int .i64 E]) (by simp [results, Tryz.results118, go_sem]) rfl ⟨none, 0, rfl, fun _ _ => TextsAt.nil _, C1⟩
set_option maxRecDepth 100000 in
set_option maxHeartbeats 1000000 in
theorem scoreRange_own (v : Value) (x : Itm) (from_ to_ : Int) (w : World) (h : ItemIs w v x) (hl : x.s.length ≤ 9223372036854775807) (hf : -9223372036854775808 ≤ from_) (ht : -9223372036854775808 ≤ to_) (hf2 : from_ ≤ 9223372036854775807) (ht2 : to_ ≤ 9223372036854775807) :
    Calls Tryz.prog 46 #[v, .int .i64 from_, .int .i64 to_] w fun e w' => ∃ a c, e = .returned (.tuple #[.slice a (askS (byPlace x.s.length from_ to_) x).length c, .int .i64 (asI x 5)]) ∧ TextsOwn w.heap.size w' a (askS (byPlace x.s.length from_ to_) x) ∧ Below w.heap.size w w' := by
  have HI := hide h
  obtain ⟨⟨a1, c1, a2, c2, a3, c3, rfl, -, -, -⟩, -, -, -, -, -, -, -⟩ := h
  have HPL : Hid (∀ W, Calls Tryz.prog 91 #[.int .i64 x.s.length, .int .i64 from_, .int .i64 to_] W fun e w' => e = .returned (.tuple #[.int .i64 (place1 x.s.length from_ to_), .int .i64 (place2 x.s.length from_ to_)]) ∧ w' = W) := fun W => places_any _ _ _ W hl hf ht hf2 ht2
  have HTH : Hid (∀ b1 b2 W, Below w.heap.size w W → W.cell? ⟨b1, 0, none⟩ = some (.int .i64 (place1 x.s.length from_ to_)) → W.cell? ⟨b2, 0, none⟩ = some (.int .i64 (place2 x.s.length from_ to_)) → Calls Tryz.prog 118 #[.agg #[.int .i64 x.k, .string x.t, .slice a1 x.l.length c1, .slice a2 x.p.length c2, .slice a3 x.s.length c3], .func (.func 119) #[] #[.pointer (some ⟨b1, 0, none⟩), .pointer (some ⟨b2, 0, none⟩)]] W fun e w' => ∃ a c, e = .returned (.tuple #[.slice a (askS (byPlace x.s.length from_ to_) x).length c, .int .i64 (asI x 5)]) ∧ TextsOwn W.heap.size w' a (askS (byPlace x.s.length from_ to_) x) ∧ Below W.heap.size W w') := fun b1 b2 W hW h1 h2 => thoseRange_any _ x b1 b2 _ W (HI.out.below hW) (fun i m V hV => (fnRange_any b1 b2 _ _ i m V ((hV.cell (p := ⟨b1, 0, none⟩) (World.block_lt_of_cell? _ _ h1)).trans h1) ((hV.cell (p := ⟨b2, 0, none⟩) (World.block_lt_of_cell? _ _ h2)).trans h2)).mono fun e w' ⟨k1, k2⟩ => ⟨by rw [k1]; unfold byPlace; congr 3 <;> simp, k2⟩)
  clear HI
  generalize askS (byPlace x.s.length from_ to_) x = K at *
  generalize place1 x.s.length from_ to_ = p1 at *
  generalize place2 x.s.length from_ to_ = p2 at *
  generalize asI x 5 = E at *
  generalize x.l.length = n1 at *
  generalize x.p.length = n2 at *
  generalize x.s.length = n3 at *
  generalize x.t = t at *
  generalize x.k = k at *
  go_enter Tryz.func46, Tryz.ntmps46
  go_wp2_with fail
  refine (HPL.out _).mono ?_
  rintro e w1 ⟨rfl, rfl⟩
  have C3 : Below w.heap.size w (((w.alloc (.cells #[.int .i64 k, .string t, .slice a1 n1 c1, .slice a2 n2 c2, .slice a3 n3 c3] 28)).alloc (.cells #[.int .i64 p1] 3)).alloc (.cells #[.int .i64 p2] 3)) := (((Below.refl _ w).alloc (Nat.le_refl _) _).alloc (by simp) _).alloc (by simp; omega) _
  go_wp2_with fail
  refine (HTH.out _ _ _ C3 (by go_simp) (by go_simp)).mono ?_
  rintro e w2 ⟨a, c, rfl, hT, hb2⟩
  have C4 := C3.trans (hb2.mono C3.size)
  have HT := hide hT
  clear hT hb2
  go_wp2_with fail
  refine bodyPost_ret (v := .tuple #[.slice a K.length c, .int .i64 E]) (by simp [results, Tryz.results46, go_sem]) rfl ⟨_, _, rfl, textsOwn_low HT.out (by simp; omega), C4⟩
theorem scoreRange_any (v : Value) (x : Itm) (from_ to_ : Int) (w : World) (h : ItemIs w v x) (hl : x.s.length ≤ 9223372036854775807) (hf : -9223372036854775808 ≤ from_) (ht : -9223372036854775808 ≤ to_) (hf2 : from_ ≤ 9223372036854775807) (ht2 : to_ ≤ 9223372036854775807) :
    Calls Tryz.prog 46 #[v, .int .i64 from_, .int .i64 to_] w fun e w' => ∃ a c, e = .returned (.tuple #[.slice a (askS (byPlace x.s.length from_ to_) x).length c, .int .i64 (asI x 5)]) ∧ TextsAt w' a (askS (byPlace x.s.length from_ to_) x) ∧ Below w.heap.size w w' :=
  (scoreRange_own v x from_ to_ w h hl hf ht hf2 ht2).mono fun _ _ ⟨a, c, he, hi, hb⟩ => ⟨a, c, he, hi.at, hb⟩
set_option maxRecDepth 100000 in
set_option maxHeartbeats 1000000 in
theorem scoreWithin_any (v : Value) (x : Itm) (least most : Int) (w : World) (h : ItemIs w v x) :
    Calls Tryz.prog 81 #[v, .int .i64 least, .int .i64 most] w fun e w' => ∃ a c, e = .returned (.tuple #[.slice a (askS (byNumber least most) x).length c, .int .i64 (asI x 5)]) ∧ TextsAt w' a (askS (byNumber least most) x) ∧ Below w.heap.size w w' := by
  have HI := hide h
  obtain ⟨⟨a1, c1, a2, c2, a3, c3, rfl, -, -, -⟩, -, -, -, -, -, -, -⟩ := h
  have HTH : Hid (∀ b1 b2 W, Below w.heap.size w W → W.cell? ⟨b1, 0, none⟩ = some (.int .i64 least) → W.cell? ⟨b2, 0, none⟩ = some (.int .i64 most) → Calls Tryz.prog 118 #[.agg #[.int .i64 x.k, .string x.t, .slice a1 x.l.length c1, .slice a2 x.p.length c2, .slice a3 x.s.length c3], .func (.func 152) #[] #[.pointer (some ⟨b1, 0, none⟩), .pointer (some ⟨b2, 0, none⟩)]] W fun e w' => ∃ a c, e = .returned (.tuple #[.slice a (askS (byNumber least most) x).length c, .int .i64 (asI x 5)]) ∧ TextsOwn W.heap.size w' a (askS (byNumber least most) x) ∧ Below W.heap.size W w') := fun b1 b2 W hW h1 h2 => thoseWithin_any _ x b1 b2 _ W (HI.out.below hW) (fun i m V hV => fnWithin_any b1 b2 _ _ i m V ((hV.cell (p := ⟨b1, 0, none⟩) (World.block_lt_of_cell? _ _ h1)).trans h1) ((hV.cell (p := ⟨b2, 0, none⟩) (World.block_lt_of_cell? _ _ h2)).trans h2))
  clear HI
  generalize askS (byNumber least most) x = K at *
  generalize asI x 5 = E at *
  generalize x.l.length = n1 at *
  generalize x.p.length = n2 at *
  generalize x.s.length = n3 at *
  generalize x.t = t at *
  generalize x.k = k at *
  go_enter Tryz.func81, Tryz.ntmps81
  go_wp2_with fail
  have C3 : Below w.heap.size w (((w.alloc (.cells #[.int .i64 k, .string t, .slice a1 n1 c1, .slice a2 n2 c2, .slice a3 n3 c3] 28)).alloc (.cells #[.int .i64 least] 3)).alloc (.cells #[.int .i64 most] 3)) := (((Below.refl _ w).alloc (Nat.le_refl _) _).alloc (by simp) _).alloc (by simp; omega) _
  refine (HTH.out _ _ _ C3 (by go_simp) (by go_simp)).mono ?_
  rintro e w2 ⟨a, c, rfl, hT, hb2⟩
  have C4 := C3.trans (hb2.mono C3.size)
  have HT := hide hT
  clear hT hb2
  go_wp2_with fail
  refine bodyPost_ret (v := .tuple #[.slice a K.length c, .int .i64 E]) (by simp [results, Tryz.results81, go_sem]) rfl ⟨_, _, rfl, HT.out.at, C4⟩
end Go.Proofs.YtcidoodaiimhfaaGreat.Z

/- WALK of scoreBegun. -/
namespace Go.Proofs.YtcidoodaiimhfaaGreat.Z
open Go.RowKit

def tallyI : Itm := ⟨5, ⟨#[]⟩, [], [], [(-1, ⟨#[98]⟩), (2, ⟨#[97]⟩), (2, ⟨#[99]⟩)]⟩
theorem tally_is {w W : World} (hw : ∀ o u, (w.alloc (.cells #[.int .i64 (-1), .string ⟨#[98]⟩, .int .i64 2, .string ⟨#[97]⟩, .int .i64 2, .string ⟨#[99]⟩] 89)).cell? ⟨w.heap.size, o, none⟩ = some u → W.cell? ⟨w.heap.size, o, none⟩ = some u) :
    ItemIs W (.agg #[.int .i64 5, .string ⟨#[]⟩, .slice none 0 0, .slice none 0 0, .slice (some ⟨w.heap.size, 0, none⟩) 3 3]) tallyI := by
  refine ⟨⟨none, 0, none, 0, some ⟨w.heap.size, 0, none⟩, 3, rfl, .inl rfl, .inl rfl, .inr ⟨w.heap.size, 0, rfl, fun i hi => ?_⟩⟩, (show (0 : Nat) ≤ maxLen by simp), by simp [tallyI], by simp [tallyI], ?_, by simp [tallyI], by simp [tallyI], by simp [tallyI]⟩
  · match i, hi with
    | 0, _ => exact ⟨hw _ _ (by simp [go_sem, tallyI]), hw _ _ (by simp [go_sem, tallyI])⟩
    | 1, _ => exact ⟨hw _ _ (by simp [go_sem, tallyI]), hw _ _ (by simp [go_sem, tallyI])⟩
    | 2, _ => exact ⟨hw _ _ (by simp [go_sem, tallyI]), hw _ _ (by simp [go_sem, tallyI])⟩
  · intro t ht
    simp [tallyI] at ht
    rcases ht with rfl | rfl | rfl <;> (show (1 : Nat) ≤ maxLen; unfold maxLen; omega)
set_option maxRecDepth 100000 in
theorem tally_any (w : World) : Calls Tryz.prog 74 #[] w fun e w' => ∃ g, e = .returned (.agg #[.int .i64 5, .string ⟨#[]⟩, .slice none 0 0, .slice none 0 0, .slice (some ⟨g, 0, none⟩) 3 3]) ∧ ItemIs w' (.agg #[.int .i64 5, .string ⟨#[]⟩, .slice none 0 0, .slice none 0 0, .slice (some ⟨g, 0, none⟩) 3 3]) tallyI ∧ Below w.heap.size w w' := by
  go_enter Tryz.func74, Tryz.ntmps74
  go_wp2_with fail
  refine bodyPost_ret (v := .agg #[.int .i64 5, .string ⟨#[]⟩, .slice none 0 0, .slice none 0 0, .slice (some ⟨w.heap.size + 1, 0, none⟩) 3 3]) (by simp [results, Tryz.results74, go_sem]) rfl ⟨_, rfl, ?_, ?_⟩
  · have h := tally_is (w := w.alloc (.cells #[.int .i64 5, .string ⟨#[]⟩, .slice none 0 0, .slice none 0 0, .slice (some ⟨w.heap.size + 1, 0, none⟩) 3 3] 28)) (W := _) (fun _ _ h => h)
    rw [World.size_alloc] at h
    exact h
  · go_grown
def sL : List Sc := [(9, ⟨#[98]⟩), (2, ⟨#[97, 97]⟩)]
def sbX : Itm := ⟨5, ⟨#[]⟩, [], [], [(2, ⟨#[97]⟩), (2, ⟨#[97, 97]⟩), (2, ⟨#[99]⟩), (9, ⟨#[98]⟩)]⟩
def sbY : Itm := ⟨5, ⟨#[]⟩, [], [], [(2, ⟨#[97]⟩), (2, ⟨#[97, 97]⟩), (2, ⟨#[99]⟩)]⟩
theorem sb_put : putE tallyI sL = 0 ∧ putN tallyI sL = 1 ∧ putI tallyI sL = sbX := ⟨by kernel_rfl, by kernel_rfl, by kernel_rfl⟩
theorem sb_rank : rankE sbX ⟨#[98]⟩ = 0 ∧ rankN sbX ⟨#[98]⟩ = 3 ∧ numN sbX ⟨#[98]⟩ = 9 := ⟨by kernel_rfl, by kernel_rfl, by kernel_rfl⟩
theorem sb_range : asI sbX 5 = 0 ∧ askS (byPlace sbX.s.length 0 1) sbX = [⟨#[97]⟩, ⟨#[97, 97]⟩] ∧ askS (byNumber 2 2) sbX = [⟨#[97]⟩, ⟨#[97, 97]⟩, ⟨#[99]⟩] := ⟨by kernel_rfl, by kernel_rfl, by kernel_rfl⟩
theorem sb_drop : dropN sbX [⟨#[98]⟩] = 1 ∧ dropI sbX [⟨#[98]⟩] = sbY := ⟨by kernel_rfl, by kernel_rfl⟩
theorem shapeZ {w : World} {v : Value} {x : Itm} (h : ItemIs w v x) : ∃ k t a1 n1 c1 a2 n2 c2 a3 n3 c3, v = .agg #[.int .i64 k, .string t, .slice a1 n1 c1, .slice a2 n2 c2, .slice a3 n3 c3] := by
  obtain ⟨⟨a1, c1, a2, c2, a3, c3, e, -, -, -⟩, -, -, -, -, -, -, -⟩ := h
  exact ⟨_, _, _, _, _, _, _, _, _, _, _, e⟩
theorem lenZ {w : World} {x : Itm} {k : Int} {t : ByteArray} {a1 a2 a3 : Option Addr} {n1 n2 n3 c1 c2 c3 : Nat} (h : ItemIs w (.agg #[.int .i64 k, .string t, .slice a1 n1 c1, .slice a2 n2 c2, .slice a3 n3 c3]) x) : n3 = x.s.length := by
  obtain ⟨⟨b1, q1, b2, q2, b3, q3, e, -, -, -⟩, -⟩ := h
  injection e with e
  have e' := congrArg (fun z => z[4]?) e
  simp at e'
  exact e'.2.1
theorem one_textZ (w : World) (t1 : ByteArray) (T : TypeId) (g : Nat) (hg : g = w.heap.size) : TextsAt (w.alloc (.cells #[.string t1] T)) (some ⟨g, 0, none⟩) [t1] := by
  subst hg
  refine .inr ⟨w.heap.size, 0, rfl, fun i hi => ?_⟩
  match i, hi with
  | 0, _ => simp [go_sem]
theorem two_textsZ (w : World) (t1 t2 : ByteArray) (T : TypeId) (g : Nat) (hg : g = w.heap.size) : TextsAt (w.alloc (.cells #[.string t1, .string t2] T)) (some ⟨g, 0, none⟩) [t1, t2] := by
  subst hg
  refine .inr ⟨w.heap.size, 0, rfl, fun i hi => ?_⟩
  match i, hi with
  | 0, _ => simp [go_sem]
  | 1, _ => simp [go_sem]
theorem three_textsZ (w : World) (t1 t2 t3 : ByteArray) (T : TypeId) (g : Nat) (hg : g = w.heap.size) : TextsAt (w.alloc (.cells #[.string t1, .string t2, .string t3] T)) (some ⟨g, 0, none⟩) [t1, t2, t3] := by
  subst hg
  refine .inr ⟨w.heap.size, 0, rfl, fun i hi => ?_⟩
  match i, hi with
  | 0, _ => simp [go_sem]
  | 1, _ => simp [go_sem]
  | 2, _ => simp [go_sem]
theorem two_scores (w : World) (p q : Sc) (g : Nat) (hg : g = w.heap.size) : ScoresAt (w.alloc (.cells #[.int .i64 p.1, .string p.2, .int .i64 q.1, .string q.2] 89)) (some ⟨g, 0, none⟩) [p, q] := by
  subst hg
  refine .inr ⟨w.heap.size, 0, rfl, fun i hi => ?_⟩
  match i, hi with
  | 0, _ => exact ⟨by simp [go_sem], by simp [go_sem]⟩
  | 1, _ => exact ⟨by simp [go_sem], by simp [go_sem]⟩
set_option maxRecDepth 100000 in
set_option maxHeartbeats 8000000 in
theorem scoreBegun_any (w : World) : Calls Tryz.prog 30 #[] w fun e w' => e = .returned (.bool true) ∧ Below w.heap.size w w' := by
  have HT := hide tally_any
  have HA : Hid (∀ v W ad, ItemIs W v tallyI → ScoresAt W (some ad) sL → Calls Tryz.prog 44 #[v, .slice (some ad) 2 2] W fun e w' => ∃ u, (e = .returned (.tuple #[u, .int .i64 1, .int .i64 0]) ∧ ItemIs w' u sbX) ∧ Below W.heap.size W w') := fun v W ad hv h => by
    have hh := scorePut_any v tallyI (some ad) 2 sL W hv h (by simp [sL])
    rw [sb_put.1, sb_put.2.1, sb_put.2.2] at hh
    exact hh.mono fun e w' ⟨u, h1, h2, h3⟩ => ⟨u, ⟨h1, h2.is⟩, h3⟩
  have HK : Hid (∀ v W, ItemIs W v sbX → Calls Tryz.prog 79 #[v, .string ⟨#[98]⟩] W fun e w' => e = .returned (.tuple #[.int .i64 3, .int .i64 0]) ∧ Below W.heap.size W w') := fun v W hv => by
    have hh := rank_any v sbX ⟨#[98]⟩ W hv
    rw [sb_rank.1, sb_rank.2.1] at hh
    exact hh
  have HN : Hid (∀ v W, ItemIs W v sbX → Calls Tryz.prog 80 #[v, .string ⟨#[98]⟩] W fun e w' => e = .returned (.tuple #[.int .i64 9, .int .i64 0]) ∧ Below W.heap.size W w') := fun v W hv => by
    have hh := number_any v sbX ⟨#[98]⟩ W hv
    rw [sb_rank.1, sb_rank.2.2] at hh
    exact hh
  have HR : Hid (∀ v W, ItemIs W v sbX → Calls Tryz.prog 46 #[v, .int .i64 0, .int .i64 1] W fun e w' => (∃ a c, e = .returned (.tuple #[.slice a 2 c, .int .i64 0]) ∧ TextsAt w' a [⟨#[97]⟩, ⟨#[97, 97]⟩]) ∧ Below W.heap.size W w') := fun v W hv => by
    have hh := scoreRange_any v sbX 0 1 W hv (by simp [sbX]) (by decide) (by decide) (by decide) (by decide)
    rw [sb_range.1, sb_range.2.1] at hh
    exact hh.mono fun e w' ⟨a, c, h1, h2, h3⟩ => ⟨⟨a, c, h1, h2⟩, h3⟩
  have HW : Hid (∀ v W, ItemIs W v sbX → Calls Tryz.prog 81 #[v, .int .i64 2, .int .i64 2] W fun e w' => (∃ a c, e = .returned (.tuple #[.slice a 3 c, .int .i64 0]) ∧ TextsAt w' a [⟨#[97]⟩, ⟨#[97, 97]⟩, ⟨#[99]⟩]) ∧ Below W.heap.size W w') := fun v W hv => by
    have hh := scoreWithin_any v sbX 2 2 W hv
    rw [sb_range.1, sb_range.2.2] at hh
    exact hh.mono fun e w' ⟨a, c, h1, h2, h3⟩ => ⟨⟨a, c, h1, h2⟩, h3⟩
  have HD : Hid (∀ v W ad, ItemIs W v sbX → TextsAt W (some ad) [⟨#[98]⟩] → Calls Tryz.prog 45 #[v, .slice (some ad) 1 1] W fun e w' => ∃ u, (e = .returned (.tuple #[u, .int .i64 1, .int .i64 0]) ∧ ItemIs w' u sbY) ∧ Below W.heap.size W w') := fun v W ad hv h => by
    have hh := scoreDrop_any v sbX (some ad) 1 [⟨#[98]⟩] W hv h (by simp)
    rw [sb_range.1, sb_drop.1, sb_drop.2] at hh
    exact hh.mono fun e w' ⟨u, h1, h2, h3⟩ => ⟨u, ⟨h1, h2.is⟩, h3⟩
  have HS : Hid (∀ a b c d W, TextsAt W a [⟨#[97]⟩, ⟨#[97, 97]⟩] → TextsAt W b [⟨#[97]⟩, ⟨#[97, 97]⟩] → Calls Tryz.prog 24 #[.slice a 2 c, .slice b 2 d] W fun e w' => e = .returned (.bool true) ∧ Below W.heap.size W w') := fun a b c d W h1 h2 => by
    have hh := sameT_any a b c d _ _ W h1 h2 (by simp)
    rw [decide_eq_true rfl] at hh
    exact hh
  have HS3 : Hid (∀ a b c d W, TextsAt W a [⟨#[97]⟩, ⟨#[97, 97]⟩, ⟨#[99]⟩] → TextsAt W b [⟨#[97]⟩, ⟨#[97, 97]⟩, ⟨#[99]⟩] → Calls Tryz.prog 24 #[.slice a 3 c, .slice b 3 d] W fun e w' => e = .returned (.bool true) ∧ Below W.heap.size W w') := fun a b c d W h1 h2 => by
    have hh := sameT_any a b c d _ _ W h1 h2 (by simp)
    rw [decide_eq_true rfl] at hh
    exact hh
  go_enter Tryz.func30, Tryz.ntmps30
  go_wp2_with fail
  have C_0 : Below w.heap.size w w := Below.refl _ _
  refine (HT.out _).mono ?_
  rintro e w1 ⟨gT, rfl, iT, hb1⟩
  have C_1 : Below w.heap.size w w1 := C_0.trans (hb1.mono C_0.size)
  clear C_0
  clear hb1
  have IT_3 := hide (iT)
  clear iT
  go_wp2_with fail
  have IT_4 := hide (IT_3.out.below ((Below.refl _ w1).alloc (Nat.le_refl _) (.cells #[.int .i64 9, .string ⟨#[98]⟩, .int .i64 2, .string ⟨#[97, 97]⟩] 89)))
  clear IT_3
  have C_5 : Below w.heap.size w (w1.alloc (.cells #[.int .i64 9, .string ⟨#[98]⟩, .int .i64 2, .string ⟨#[97, 97]⟩] 89)) := C_1.alloc C_1.size (.cells #[.int .i64 9, .string ⟨#[98]⟩, .int .i64 2, .string ⟨#[97, 97]⟩] 89)
  clear C_1
  refine (HA.out _ _ _ IT_4.out (by exact two_scores _ (9, ⟨#[98]⟩) (2, ⟨#[97, 97]⟩) _ (by simp))).mono ?_
  rintro e w2 ⟨uX, ⟨rfl, iX⟩, hb2⟩
  have C_6 : Below w.heap.size w w2 := C_5.trans (hb2.mono C_5.size)
  clear C_5
  have IT_7 := hide (IT_4.out.below hb2)
  clear IT_4
  clear hb2
  obtain ⟨kX, tX, aX1, nX1, cX1, aX2, nX2, cX2, aX3, nX3, cX3, rfl⟩ := shapeZ iX
  have IX_8 := hide (iX)
  clear iX
  go_wp2_with fail
  have IX_9 := hide (IX_8.out.below ((Below.refl _ w2).alloc (Nat.le_refl _) (.cells #[.int .i64 kX, .string tX, .slice aX1 nX1 cX1, .slice aX2 nX2 cX2, .slice aX3 nX3 cX3] 28)))
  clear IX_8
  have C_10 : Below w.heap.size w (w2.alloc (.cells #[.int .i64 kX, .string tX, .slice aX1 nX1 cX1, .slice aX2 nX2 cX2, .slice aX3 nX3 cX3] 28)) := C_6.alloc C_6.size (.cells #[.int .i64 kX, .string tX, .slice aX1 nX1 cX1, .slice aX2 nX2 cX2, .slice aX3 nX3 cX3] 28)
  clear C_6
  have X_11 := hide (BoxAt.new w2 (.int .i64 kX) (.string tX) (.slice aX1 nX1 cX1) (.slice aX2 nX2 cX2) (.slice aX3 nX3 cX3) 28)
  refine (HK.out _ _ IX_9.out).mono ?_
  rintro e w3 ⟨rfl, hb3⟩
  have C_12 : Below w.heap.size w w3 := C_10.trans (hb3.mono C_10.size)
  clear C_10
  have IX_13 := hide (IX_9.out.below hb3)
  have X_13 := hide (X_11.out.below hb3)
  clear IX_9 X_11
  clear hb3
  obtain ⟨xc0, xc1, xc2, xc3, xc4, xlt⟩ := X_13.out
  go_wp2_with fail
  refine (HN.out _ _ IX_13.out).mono ?_
  rintro e w4 ⟨rfl, hb4⟩
  clear xc0 xc1 xc2 xc3 xc4 xlt
  have C_14 : Below w.heap.size w w4 := C_12.trans (hb4.mono C_12.size)
  clear C_12
  have IX_15 := hide (IX_13.out.below hb4)
  have X_15 := hide (X_13.out.below hb4)
  clear IX_13 X_13
  clear hb4
  obtain ⟨xc0, xc1, xc2, xc3, xc4, xlt⟩ := X_15.out
  go_wp2_with fail
  refine (HR.out _ _ IX_15.out).mono ?_
  rintro e w5 ⟨⟨aR, cR, rfl, iR⟩, hb5⟩
  clear xc0 xc1 xc2 xc3 xc4 xlt
  have C_16 : Below w.heap.size w w5 := C_14.trans (hb5.mono C_14.size)
  clear C_14
  have IX_17 := hide (IX_15.out.below hb5)
  have X_17 := hide (X_15.out.below hb5)
  clear IX_15 X_15
  clear hb5
  have TR_18 := hide (iR)
  clear iR
  obtain ⟨xc0, xc1, xc2, xc3, xc4, xlt⟩ := X_17.out
  go_wp2_with fail
  refine (HW.out _ _ IX_17.out).mono ?_
  rintro e w6 ⟨⟨aW, cW, rfl, iW⟩, hb6⟩
  clear xc0 xc1 xc2 xc3 xc4 xlt
  have C_19 : Below w.heap.size w w6 := C_16.trans (hb6.mono C_16.size)
  clear C_16
  have IX_20 := hide (IX_17.out.below hb6)
  have X_20 := hide (X_17.out.below hb6)
  have TR_20 := hide (TR_18.out.below hb6)
  clear IX_17 X_17 TR_18
  clear hb6
  have TW_21 := hide (iW)
  clear iW
  obtain ⟨xc0, xc1, xc2, xc3, xc4, xlt⟩ := X_20.out
  go_wp2_with fail
  have IX_22 := hide (IX_20.out.below ((Below.refl _ w6).alloc (Nat.le_refl _) (.cells #[.string ⟨#[98]⟩] 9)))
  clear IX_20
  have X_23 := hide (X_20.out.below ((Below.refl _ w6).alloc (Nat.le_refl _) (.cells #[.string ⟨#[98]⟩] 9)))
  clear X_20
  have TR_24 := hide (TR_20.out.below ((Below.refl _ w6).alloc (Nat.le_refl _) (.cells #[.string ⟨#[98]⟩] 9)))
  clear TR_20
  have TW_25 := hide (TW_21.out.below ((Below.refl _ w6).alloc (Nat.le_refl _) (.cells #[.string ⟨#[98]⟩] 9)))
  clear TW_21
  have C_26 : Below w.heap.size w (w6.alloc (.cells #[.string ⟨#[98]⟩] 9)) := C_19.alloc C_19.size (.cells #[.string ⟨#[98]⟩] 9)
  clear C_19
  refine (HD.out _ _ _ IX_22.out (by exact one_textZ _ _ _ _ (by simp))).mono ?_
  rintro e w7 ⟨uY, ⟨rfl, iY⟩, hb7⟩
  clear xc0 xc1 xc2 xc3 xc4 xlt
  have C_27 : Below w.heap.size w w7 := C_26.trans (hb7.mono C_26.size)
  clear C_26
  have IX_28 := hide (IX_22.out.below hb7)
  have X_28 := hide (X_23.out.below hb7)
  have TR_28 := hide (TR_24.out.below hb7)
  have TW_28 := hide (TW_25.out.below hb7)
  clear IX_22 X_23 TR_24 TW_25
  clear hb7
  obtain ⟨kY, tY, aY1, nY1, cY1, aY2, nY2, cY2, aY3, nY3, cY3, rfl⟩ := shapeZ iY
  obtain rfl : nY3 = 3 := lenZ iY
  clear iY
  go_wp2_with fail
  have IX_29 := hide (IX_28.out.below ((Below.refl _ w7).alloc (Nat.le_refl _) (.cells #[.int .i64 kY, .string tY, .slice aY1 nY1 cY1, .slice aY2 nY2 cY2, .slice aY3 3 cY3] 28)))
  clear IX_28
  have X_30 := hide (X_28.out.below ((Below.refl _ w7).alloc (Nat.le_refl _) (.cells #[.int .i64 kY, .string tY, .slice aY1 nY1 cY1, .slice aY2 nY2 cY2, .slice aY3 3 cY3] 28)))
  clear X_28
  have TR_31 := hide (TR_28.out.below ((Below.refl _ w7).alloc (Nat.le_refl _) (.cells #[.int .i64 kY, .string tY, .slice aY1 nY1 cY1, .slice aY2 nY2 cY2, .slice aY3 3 cY3] 28)))
  clear TR_28
  have TW_32 := hide (TW_28.out.below ((Below.refl _ w7).alloc (Nat.le_refl _) (.cells #[.int .i64 kY, .string tY, .slice aY1 nY1 cY1, .slice aY2 nY2 cY2, .slice aY3 3 cY3] 28)))
  clear TW_28
  have C_33 : Below w.heap.size w (w7.alloc (.cells #[.int .i64 kY, .string tY, .slice aY1 nY1 cY1, .slice aY2 nY2 cY2, .slice aY3 3 cY3] 28)) := C_27.alloc C_27.size (.cells #[.int .i64 kY, .string tY, .slice aY1 nY1 cY1, .slice aY2 nY2 cY2, .slice aY3 3 cY3] 28)
  clear C_27
  have Y_34 := hide (BoxAt.new w7 (.int .i64 kY) (.string tY) (.slice aY1 nY1 cY1) (.slice aY2 nY2 cY2) (.slice aY3 3 cY3) 28)
  have IX_35 := hide (IX_29.out.below ((Below.refl _ (w7.alloc (.cells #[.int .i64 kY, .string tY, .slice aY1 nY1 cY1, .slice aY2 nY2 cY2, .slice aY3 3 cY3] 28))).alloc (Nat.le_refl _) (.cells #[.string ⟨#[97]⟩, .string ⟨#[97, 97]⟩] 9)))
  clear IX_29
  have X_36 := hide (X_30.out.below ((Below.refl _ (w7.alloc (.cells #[.int .i64 kY, .string tY, .slice aY1 nY1 cY1, .slice aY2 nY2 cY2, .slice aY3 3 cY3] 28))).alloc (Nat.le_refl _) (.cells #[.string ⟨#[97]⟩, .string ⟨#[97, 97]⟩] 9)))
  clear X_30
  have TR_37 := hide (TR_31.out.below ((Below.refl _ (w7.alloc (.cells #[.int .i64 kY, .string tY, .slice aY1 nY1 cY1, .slice aY2 nY2 cY2, .slice aY3 3 cY3] 28))).alloc (Nat.le_refl _) (.cells #[.string ⟨#[97]⟩, .string ⟨#[97, 97]⟩] 9)))
  clear TR_31
  have TW_38 := hide (TW_32.out.below ((Below.refl _ (w7.alloc (.cells #[.int .i64 kY, .string tY, .slice aY1 nY1 cY1, .slice aY2 nY2 cY2, .slice aY3 3 cY3] 28))).alloc (Nat.le_refl _) (.cells #[.string ⟨#[97]⟩, .string ⟨#[97, 97]⟩] 9)))
  clear TW_32
  have Y_39 := hide (Y_34.out.below ((Below.refl _ (w7.alloc (.cells #[.int .i64 kY, .string tY, .slice aY1 nY1 cY1, .slice aY2 nY2 cY2, .slice aY3 3 cY3] 28))).alloc (Nat.le_refl _) (.cells #[.string ⟨#[97]⟩, .string ⟨#[97, 97]⟩] 9)))
  clear Y_34
  have C_40 : Below w.heap.size w ((w7.alloc (.cells #[.int .i64 kY, .string tY, .slice aY1 nY1 cY1, .slice aY2 nY2 cY2, .slice aY3 3 cY3] 28)).alloc (.cells #[.string ⟨#[97]⟩, .string ⟨#[97, 97]⟩] 9)) := C_33.alloc C_33.size (.cells #[.string ⟨#[97]⟩, .string ⟨#[97, 97]⟩] 9)
  clear C_33
  refine (HS.out _ _ _ _ _ TR_37.out (by exact two_textsZ _ _ _ _ _ (by simp))).mono ?_
  rintro e w8 ⟨rfl, hb8⟩
  have C_41 : Below w.heap.size w w8 := C_40.trans (hb8.mono C_40.size)
  clear C_40
  have IX_42 := hide (IX_35.out.below hb8)
  have X_42 := hide (X_36.out.below hb8)
  have TR_42 := hide (TR_37.out.below hb8)
  have TW_42 := hide (TW_38.out.below hb8)
  have Y_42 := hide (Y_39.out.below hb8)
  clear IX_35 X_36 TR_37 TW_38 Y_39
  clear hb8
  go_wp2_with fail
  have IX_43 := hide (IX_42.out.below ((Below.refl _ w8).alloc (Nat.le_refl _) (.cells #[.string ⟨#[97]⟩, .string ⟨#[97, 97]⟩, .string ⟨#[99]⟩] 9)))
  clear IX_42
  have X_44 := hide (X_42.out.below ((Below.refl _ w8).alloc (Nat.le_refl _) (.cells #[.string ⟨#[97]⟩, .string ⟨#[97, 97]⟩, .string ⟨#[99]⟩] 9)))
  clear X_42
  have TR_45 := hide (TR_42.out.below ((Below.refl _ w8).alloc (Nat.le_refl _) (.cells #[.string ⟨#[97]⟩, .string ⟨#[97, 97]⟩, .string ⟨#[99]⟩] 9)))
  clear TR_42
  have TW_46 := hide (TW_42.out.below ((Below.refl _ w8).alloc (Nat.le_refl _) (.cells #[.string ⟨#[97]⟩, .string ⟨#[97, 97]⟩, .string ⟨#[99]⟩] 9)))
  clear TW_42
  have Y_47 := hide (Y_42.out.below ((Below.refl _ w8).alloc (Nat.le_refl _) (.cells #[.string ⟨#[97]⟩, .string ⟨#[97, 97]⟩, .string ⟨#[99]⟩] 9)))
  clear Y_42
  have C_48 : Below w.heap.size w (w8.alloc (.cells #[.string ⟨#[97]⟩, .string ⟨#[97, 97]⟩, .string ⟨#[99]⟩] 9)) := C_41.alloc C_41.size (.cells #[.string ⟨#[97]⟩, .string ⟨#[97, 97]⟩, .string ⟨#[99]⟩] 9)
  clear C_41
  refine (HS3.out _ _ _ _ _ TW_46.out (by exact three_textsZ _ _ _ _ _ _ (by simp))).mono ?_
  rintro e w9 ⟨rfl, hb9⟩
  have C_49 : Below w.heap.size w w9 := C_48.trans (hb9.mono C_48.size)
  clear C_48
  have IX_50 := hide (IX_43.out.below hb9)
  have X_50 := hide (X_44.out.below hb9)
  have TR_50 := hide (TR_45.out.below hb9)
  have TW_50 := hide (TW_46.out.below hb9)
  have Y_50 := hide (Y_47.out.below hb9)
  clear IX_43 X_44 TR_45 TW_46 Y_47
  clear hb9
  obtain ⟨yc0, yc1, yc2, yc3, yc4, ylt⟩ := Y_50.out
  go_wp2_with fail
  go_ret
  exact ⟨rfl, C_49⟩
end Go.Proofs.YtcidoodaiimhfaaGreat.Z

/- Library contracts, laid at this program. -/
namespace Go.Proofs
open Go.Shelf
def Tryz.lays190_ren : Go.Shelf.Ren := ⟨fun | 190 => 95 | 125 => 158 | 258 => 157 | 128 => 214 | 129 => 215 | 302 => 205 | 303 => 206 | 304 => 207 | 305 => 208 | 306 => 209 | 307 => 210 | 308 => 211 | 309 => 212 | 310 => 213 | 333 => 233 | 329 => 234 | 330 => 235 | 334 => 236 | 335 => 237 | 336 => 238 | 344 => 250 | n => n, fun | 31 => 24 | 9 => 9 | 3 => 3 | 46 => 173 | 0 => 0 | 51 => 231 | 53 => 233 | 4 => 4 | 183 => 225 | 182 => 224 | 131 => 93 | 5 => 5 | 218 => 249 | 222 => 253 | 228 => 266 | 229 => 109 | n => n, fun | n => n⟩
theorem Tryz.lays190 : Go.Proofs.Lays.n190 Tryz.prog Tryz.lays190_ren := {
  mixed := by kernel_rfl
  f125 := Tryz.func158.trans (congrArg some (by kernel_rfl))
  f128 := Tryz.func214.trans (congrArg some (by kernel_rfl))
  f129 := Tryz.func215.trans (congrArg some (by kernel_rfl))
  f190 := Tryz.func95.trans (congrArg some (by kernel_rfl))
  f258 := Tryz.func157.trans (congrArg some (by kernel_rfl))
  f302 := Tryz.func205.trans (congrArg some (by kernel_rfl))
  f303 := Tryz.func206.trans (congrArg some (by kernel_rfl))
  f304 := Tryz.func207.trans (congrArg some (by kernel_rfl))
  f305 := Tryz.func208.trans (congrArg some (by kernel_rfl))
  f306 := Tryz.func209.trans (congrArg some (by kernel_rfl))
  f307 := Tryz.func210.trans (congrArg some (by kernel_rfl))
  f308 := Tryz.func211.trans (congrArg some (by kernel_rfl))
  f309 := Tryz.func212.trans (congrArg some (by kernel_rfl))
  f310 := Tryz.func213.trans (congrArg some (by kernel_rfl))
  f329 := Tryz.func234.trans (congrArg some (by kernel_rfl))
  f330 := Tryz.func235.trans (congrArg some (by kernel_rfl))
  f333 := Tryz.func233.trans (congrArg some (by kernel_rfl))
  f334 := Tryz.func236.trans (congrArg some (by kernel_rfl))
  f335 := Tryz.func237.trans (congrArg some (by kernel_rfl))
  f336 := Tryz.func238.trans (congrArg some (by kernel_rfl))
  f344 := Tryz.func250.trans (congrArg some (by kernel_rfl))
  t0 := Tryz.underlying0
  a0 := Tryz.isAgg0
  z0 := Tryz.sizeOf0
  v0 := Tryz.zeroValue0
  t3 := Tryz.underlying3
  a3 := Tryz.isAgg3
  z3 := Tryz.sizeOf3
  v3 := Tryz.zeroValue3
  t4 := Tryz.underlying4
  a4 := Tryz.isAgg4
  z4 := Tryz.sizeOf4
  v4 := Tryz.zeroValue4
  t5 := Tryz.underlying5
  a5 := Tryz.isAgg5
  z5 := Tryz.sizeOf5
  v5 := Tryz.zeroValue5
  t9 := Tryz.underlying9
  a9 := Tryz.isAgg9
  z9 := Tryz.sizeOf9
  v9 := Tryz.zeroValue9
  t31 := Tryz.underlying24
  a31 := Tryz.isAgg24
  z31 := Tryz.sizeOf24
  v31 := Tryz.zeroValue24
  t46 := Tryz.underlying173
  a46 := Tryz.isAgg173
  z46 := Tryz.sizeOf173
  v46 := Tryz.zeroValue173
  t51 := Tryz.underlying231
  a51 := Tryz.isAgg231
  z51 := Tryz.sizeOf231
  v51 := Tryz.zeroValue231
  t53 := Tryz.underlying233
  a53 := Tryz.isAgg233
  z53 := Tryz.sizeOf233
  v53 := Tryz.zeroValue233
  t131 := Tryz.underlying93
  a131 := Tryz.isAgg93
  z131 := Tryz.sizeOf93
  v131 := Tryz.zeroValue93
  t182 := Tryz.underlying224
  a182 := Tryz.isAgg224
  z182 := Tryz.sizeOf224
  v182 := Tryz.zeroValue224
  t183 := Tryz.underlying225
  a183 := Tryz.isAgg225
  z183 := Tryz.sizeOf225
  v183 := Tryz.zeroValue225
  t218 := Tryz.underlying249
  a218 := Tryz.isAgg249
  z218 := Tryz.sizeOf249
  v218 := Tryz.zeroValue249
  t222 := Tryz.underlying253
  a222 := Tryz.isAgg253
  z222 := Tryz.sizeOf253
  v222 := Tryz.zeroValue253
  t228 := Tryz.underlying266
  a228 := Tryz.isAgg266
  z228 := Tryz.sizeOf266
  v228 := Tryz.zeroValue266
  t229 := Tryz.underlying109
  a229 := Tryz.isAgg109
  z229 := Tryz.sizeOf109
  v229 := Tryz.zeroValue109 }
open Go.Sort Go.RowKit in
theorem Tryz.slices_Sort_string (blk off cap : Nat) (ss : List (List UInt8)) (w : World) (hH : Holds encStr w blk off ss.toArray) (hblk : blk < w.heap.size) (hsz : ss.length < 4611686018427387904) :
    Calls Tryz.prog 95 #[.slice (some ⟨blk, off, none⟩) ss.length cap] w fun e w' =>
      e = .returned (.tuple #[]) ∧ ∃ n os, w' = grow (putRow encStr (Sort.ahead w n) blk off (ss.mergeSort fun x y => decide (x ≤ y)).toArray) os := Any.slices_Sort_string Tryz.lays190 blk off cap ss w hH hblk hsz
def Tryz.lays110_ren : Go.Shelf.Ren := ⟨fun | 110 => 101 | 109 => 159 | n => n, fun | 31 => 24 | 9 => 9 | 4 => 4 | 3 => 3 | 0 => 0 | n => n, fun | n => n⟩
theorem Tryz.lays110 : Go.Proofs.Lays.n110 Tryz.prog Tryz.lays110_ren := {
  mixed := by kernel_rfl
  f109 := Tryz.func159.trans (congrArg some (by kernel_rfl))
  f110 := Tryz.func101.trans (congrArg some (by kernel_rfl))
  t0 := Tryz.underlying0
  a0 := Tryz.isAgg0
  z0 := Tryz.sizeOf0
  v0 := Tryz.zeroValue0
  t3 := Tryz.underlying3
  a3 := Tryz.isAgg3
  z3 := Tryz.sizeOf3
  v3 := Tryz.zeroValue3
  t4 := Tryz.underlying4
  a4 := Tryz.isAgg4
  z4 := Tryz.sizeOf4
  v4 := Tryz.zeroValue4
  t9 := Tryz.underlying9
  a9 := Tryz.isAgg9
  z9 := Tryz.sizeOf9
  v9 := Tryz.zeroValue9
  t31 := Tryz.underlying24
  a31 := Tryz.isAgg24
  z31 := Tryz.sizeOf24
  v31 := Tryz.zeroValue24 }
open Go.Lib in
theorem Tryz.slices_Contains_string (b off n c : Nat) (zs : List ByteArray) (x : ByteArray) (w : World) (hz : n ≤ zs.length) (hbig : n ≤ 9223372036854775807) (hc : ∀ j, j < zs.length → w.cell? ⟨b, off + j, none⟩ = some (.string (zs.getD j ByteArray.empty))) :
    Calls Tryz.prog 101 #[.slice (some ⟨b, off, none⟩) n c, .string x] w fun e w' => e = .returned (.bool (Lib.containsS (zs.take n) x)) ∧ w' = w := Any.slices_Contains_string Tryz.lays110 b off n c zs x w hz hbig hc
open Go.Lib in
theorem Tryz.slices_Contains_string_empty (a : Option Addr) (c : Nat) (x : ByteArray) (w : World) :
    Calls Tryz.prog 101 #[.slice a 0 c, .string x] w fun e w' => e = .returned (.bool false) ∧ w' = w := Any.slices_Contains_string_empty Tryz.lays110 a c x w
def Tryz.lays194_ren : Go.Shelf.Ren := ⟨fun | 194 => 96 | n => n, fun | 31 => 24 | 9 => 9 | 3 => 3 | 4 => 4 | 0 => 0 | n => n, fun | n => n⟩
theorem Tryz.lays194 : Go.Proofs.Lays.n194 Tryz.prog Tryz.lays194_ren := {
  mixed := by kernel_rfl
  f194 := Tryz.func96.trans (congrArg some (by kernel_rfl))
  t0 := Tryz.underlying0
  a0 := Tryz.isAgg0
  z0 := Tryz.sizeOf0
  v0 := Tryz.zeroValue0
  t3 := Tryz.underlying3
  a3 := Tryz.isAgg3
  z3 := Tryz.sizeOf3
  v3 := Tryz.zeroValue3
  t4 := Tryz.underlying4
  a4 := Tryz.isAgg4
  z4 := Tryz.sizeOf4
  v4 := Tryz.zeroValue4
  t9 := Tryz.underlying9
  a9 := Tryz.isAgg9
  z9 := Tryz.sizeOf9
  v9 := Tryz.zeroValue9
  t31 := Tryz.underlying24
  a31 := Tryz.isAgg24
  z31 := Tryz.sizeOf24
  v31 := Tryz.zeroValue24 }
open Go.RowKit Go.Lib Go.Sort in
theorem Tryz.slices_Compact_string_empty (a : Option Addr) (cap : Nat) (w : World) :
    Calls Tryz.prog 96 #[.slice a 0 cap] w fun e w' => e = .returned (.slice a 0 cap) ∧ w' = w := Any.slices_Compact_string_empty Tryz.lays194 a cap w
open Go.RowKit Go.Lib Go.Sort in
theorem Tryz.slices_Compact_string_cells (b off n c : Nat) (Sx : Nat → ByteArray) (w : World) (hbig : n ≤ 9223372036854775807) (hcap : n ≤ c) (hc : ∀ i, i < n → w.cell? ⟨b, off + i, none⟩ = some (.string (Sx i))) (hf : ∀ j, j < n → w.frozen? ⟨b, off + j, none⟩ = false) :
    Calls Tryz.prog 96 #[.slice (some ⟨b, off, none⟩) n c] w fun e w' => e = .returned (.slice (some ⟨b, off, none⟩) (Lib.compact (Lib.strsOf Sx n)).length c) ∧ ∃ q, w' = (w.drewN q).setCells b off ((Lib.compact (Lib.strsOf Sx n) ++ List.replicate (n - (Lib.compact (Lib.strsOf Sx n)).length) []).map encStr) := Any.slices_Compact_string_cells Tryz.lays194 b off n c Sx w hbig hcap hc hf
open Go.RowKit Go.Sort in
theorem Tryz.slices_Sort_string_none (p : Option Addr) (cap : Nat) (w : World) :
    Calls Tryz.prog 95 #[.slice p 0 cap] w fun e w' => e = .returned (.tuple #[]) ∧ w' = w := Any.slices_Sort_string_none Tryz.lays190 p cap w
end Go.Proofs

/- Texts as an item of a kind, and the walk of filled. -/
namespace Go.Proofs.YtcidoodaiimhfaaGreat
open Go.RowKit

set_option maxRecDepth 100000 in
set_option maxHeartbeats 1000000 in
/-- an item of texts alone -/
theorem filled_any (k : Int) (a : Option Addr) (n c : Nat) (w : World) (hn : n ≤ 281474976710656) :
    Calls Tryz.prog 84 #[.agg #[.int .i64 k, .string ⟨#[]⟩, .slice a n c, .slice none 0 0, .slice none 0 0]] w fun e w' => e = .returned (if n = 0 then .agg #[.int .i64 0, .string ⟨#[]⟩, .slice none 0 0, .slice none 0 0, .slice none 0 0] else .agg #[.int .i64 k, .string ⟨#[]⟩, .slice a n c, .slice none 0 0, .slice none 0 0]) ∧ Below w.heap.size w w' := by
  by_cases h0 : n = 0
  · subst h0
    rw [if_pos rfl]
    go_enter Tryz.func84, Tryz.ntmps84
    go_wp2_with fail
    refine bodyPost_ret (v := .agg #[.int .i64 0, .string ⟨#[]⟩, .slice none 0 0, .slice none 0 0, .slice none 0 0]) (by simp [results, Tryz.results84, go_sem]) rfl ⟨rfl, ?_⟩
    go_grown
  · rw [if_neg h0]
    have h0' : (((n : Nat) : Int) == 0) = false := by rw [beq_eq_false_iff_ne]; omega
    go_enter Tryz.func84, Tryz.ntmps84
    go_wp2_with fail
    refine bodyPost_ret (v := .agg #[.int .i64 k, .string ⟨#[]⟩, .slice a n c, .slice none 0 0, .slice none 0 0]) (by simp [results, Tryz.results84, go_sem]) rfl ⟨rfl, ?_⟩
    go_grown
/-- texts as an item of a kind: nothing, if there are none -/
def kindI (k : Int) (l : List ByteArray) : Itm := if l = [] then Itm.none else ⟨k, ⟨#[]⟩, l, [], []⟩
theorem kindI_two (l : List ByteArray) : kindI 2 l = lstI l := rfl
theorem filled_item {p : World → Prop} {ao : Option Addr} {cp : Nat} {K : List ByteArray} (kind : Int) (hT : ∀ W, p W → TextsAt W ao K) (hz : ∀ t ∈ K, t.size ≤ maxLen) (hl : K.length ≤ 281474976710656) :
    ∃ (fk : Int) (fa : Option Addr) (fn fc : Nat), (∀ W, Calls Tryz.prog 84 #[.agg #[.int .i64 kind, .string ⟨#[]⟩, .slice ao K.length cp, .slice none 0 0, .slice none 0 0]] W fun e w' => e = .returned (.agg #[.int .i64 fk, .string ⟨#[]⟩, .slice fa fn fc, .slice none 0 0, .slice none 0 0]) ∧ Below W.heap.size W w') ∧ ∀ W, p W → ItemIs W (.agg #[.int .i64 fk, .string ⟨#[]⟩, .slice fa fn fc, .slice none 0 0, .slice none 0 0]) (kindI kind K) := by
  by_cases h0 : K = []
  · subst h0
    refine ⟨0, none, 0, 0, fun W => ?_, fun w' _ => zero_is w'⟩
    have := filled_any kind ao 0 cp W (by omega)
    rw [if_pos rfl] at this
    exact this
  · refine ⟨kind, ao, K.length, cp, fun W => ?_, fun w' hw => ?_⟩
    · have := filled_any kind ao K.length cp W hl
      rw [if_neg (fun e => h0 (List.eq_nil_of_length_eq_zero e))] at this
      exact this
    · rw [kindI, if_neg h0]
      exact ⟨⟨ao, cp, none, 0, none, 0, rfl, hT w' hw, .inl rfl, .inl rfl⟩, (show (0 : Nat) ≤ maxLen by simp), hz, by simp, by simp, hl, by simp, by simp⟩
def lessK (l m : List ByteArray) : List ByteArray := keptTo (fun _ t => hasT m t) l l.length
def remofI (x : Itm) (kind : Int) (l : List ByteArray) : Itm := if asI x kind = 0 then kindI kind (lessK x.l l) else Itm.none
def remofN (x : Itm) (kind : Int) (l : List ByteArray) : Int := if asI x kind = 0 then ((x.l.length : Nat) : Int) - (((lessK x.l l).length : Nat) : Int) else 0
end Go.Proofs.YtcidoodaiimhfaaGreat

/- Library contracts, laid at this program. -/
namespace Go.Proofs
open Go.Shelf
def Tryz.layDel_ren : Go.Shelf.Ren := ⟨fun | 10 => 98 | 6 => 153 | n => n, fun | 22 => 24 | 23 => 9 | 25 => 105 | 3 => 3 | 4 => 4 | 0 => 0 | n => n, fun | n => n⟩
theorem Tryz.layDel : Go.Proofs.SlLaysH.n10 Tryz.prog Tryz.layDel_ren := {
  mixed := by kernel_rfl
  f6 := ⟨Tryz.f153.name, by decide, Tryz.func153.trans (congrArg some (by kernel_rfl))⟩
  f10 := ⟨Tryz.f98.name, by decide, Tryz.func98.trans (congrArg some (by kernel_rfl))⟩
  t0 := Tryz.underlying0
  a0 := Tryz.isAgg0
  z0 := Tryz.sizeOf0
  v0 := Tryz.zeroValue0
  t3 := Tryz.underlying3
  a3 := Tryz.isAgg3
  z3 := Tryz.sizeOf3
  v3 := Tryz.zeroValue3
  t4 := Tryz.underlying4
  a4 := Tryz.isAgg4
  z4 := Tryz.sizeOf4
  v4 := Tryz.zeroValue4
  t22 := Tryz.underlying24
  a22 := Tryz.isAgg24
  z22 := Tryz.sizeOf24
  v22 := Tryz.zeroValue24
  a23 := Tryz.isAgg9
  z23 := Tryz.sizeOf9
  t25 := Tryz.underlying105
  a25 := Tryz.isAgg105
  z25 := Tryz.sizeOf105
  v25 := Tryz.zeroValue105 }
end Go.Proofs

/- WALK of sets: without these. -/
namespace Go.Proofs.YtcidoodaiimhfaaGreat
open Go.RowKit

theorem contains_any (a : Option Addr) (cap : Nat) (ts : List ByteArray) (s : ByteArray) (w : World) (hs : TextsAt w a ts) (hn : ts.length ≤ 281474976710656) :
    Calls Tryz.prog 101 #[.slice a ts.length cap, .string s] w fun e w' => e = .returned (.bool (hasT ts s)) ∧ w' = w := by
  rcases hs with rfl | ⟨g, o, rfl, hc⟩
  · exact Tryz.slices_Contains_string_empty a cap s w
  · have hh := Tryz.slices_Contains_string g o ts.length cap ts s w (Nat.le_refl _) (by omega) (fun j hj => by rw [hc j hj]; simp [hj])
    rw [List.take_length, show Lib.containsS ts s = hasT ts s from Bool.eq_iff_iff.2 (Iff.trans (Lib.containsS_iff _ _) hasT_iff.symm)] at hh
    exact hh
set_option maxRecDepth 100000 in
theorem setOf_any (a : Option Addr) (n cap : Nat) (w : World) (hn : n ≤ 281474976710656) :
    Calls Tryz.prog 97 #[.slice a n cap] w fun e w' => e = .returned (if n = 0 then .agg #[.int .i64 0, .string ⟨#[]⟩, .slice none 0 0, .slice none 0 0, .slice none 0 0] else .agg #[.int .i64 3, .string ⟨#[]⟩, .slice a n cap, .slice none 0 0, .slice none 0 0]) ∧ Below w.heap.size w w' := by
  by_cases h0 : n = 0
  · subst h0
    go_enter Tryz.func97, Tryz.ntmps97
    go_wp2_with fail
    refine bodyPost_ret (v := .agg #[.int .i64 0, .string ⟨#[]⟩, .slice none 0 0, .slice none 0 0, .slice none 0 0]) (by simp [results, Tryz.results97, go_sem]) rfl ⟨rfl, ?_⟩
    go_grown
  · have h0' : ¬ ((n : Nat) : Int) = 0 := by omega
    rw [if_neg h0]
    go_enter Tryz.func97, Tryz.ntmps97
    go_wp2_with fail
    refine bodyPost_ret (v := .agg #[.int .i64 3, .string ⟨#[]⟩, .slice a n cap, .slice none 0 0, .slice none 0 0]) (by simp [results, Tryz.results97, go_sem]) rfl ⟨rfl, ?_⟩
    go_grown
/-- is it one? -/
def hasE (x : Itm) (s : ByteArray) : Bool := if asI x 3 = 0 then hasT x.l s else false
set_option maxRecDepth 100000 in
set_option maxHeartbeats 1000000 in
theorem has_any (v : Value) (x : Itm) (s : ByteArray) (w : World) (h : ItemIs w v x) :
    Calls Tryz.prog 76 #[v, .string s] w fun e w' => e = .returned (.tuple #[.bool (hasE x s), .int .i64 (asI x 3)]) ∧ Below w.heap.size w w' := by
  have HI := hide h
  obtain ⟨⟨a1, c1, a2, c2, a3, c3, rfl, hx1, -, -⟩, -, -, -, -, hl1, -, -⟩ := h
  have HC : Hid (∀ W, Below w.heap.size w W → Calls Tryz.prog 85 #[.agg #[.int .i64 x.k, .string x.t, .slice a1 x.l.length c1, .slice a2 x.p.length c2, .slice a3 x.s.length c3], .int .i64 3] W fun e w' => e = .returned (.int .i64 (asI x 3)) ∧ Below W.heap.size W w') := fun W hW => common_any _ x 3 W (HI.out.below hW)
  have HX := hide hx1
  have HN : Hid (∀ W, Below w.heap.size w W → Calls Tryz.prog 101 #[.slice a1 x.l.length c1, .string s] W fun e w' => e = .returned (.bool (hasT x.l s)) ∧ Below W.heap.size W w') := fun W hW => (contains_any a1 c1 x.l s W (HX.out.below hW) hl1).mono fun _ _ ⟨h1, h2⟩ => ⟨h1, by rw [h2]; exact Below.refl _ _⟩
  clear HI hx1 HX hl1
  by_cases h0 : asI x 3 = 0
  · rw [hasE, if_pos h0, h0]
    rw [h0] at HC
    clear h0
    generalize hasT x.l s = R at *
    generalize x.k = k at *
    generalize x.t = t at *
    generalize x.l.length = n1 at *
    generalize x.p.length = n2 at *
    generalize x.s.length = n3 at *
    go_enter Tryz.func76, Tryz.ntmps76
    go_wp2_with fail
    have C_0 : Below w.heap.size w (w.alloc (.cells #[.int .i64 k, .string t, .slice a1 n1 c1, .slice a2 n2 c2, .slice a3 n3 c3] 28)) := (Below.refl _ w).alloc (Nat.le_refl _) _
    have X_1 := hide (BoxAt.new w (.int .i64 k) (.string t) (.slice a1 n1 c1) (.slice a2 n2 c2) (.slice a3 n3 c3) 28)
    refine (HC.out _ C_0).mono ?_
    rintro e w1 ⟨rfl, hb1⟩
    have C_2 : Below w.heap.size w w1 := C_0.trans (hb1.mono C_0.size)
    clear C_0
    have X_3 := hide (X_1.out.below hb1)
    clear X_1
    clear hb1
    obtain ⟨xc0, xc1, xc2, xc3, xc4, xlt⟩ := X_3.out
    go_wp2_with fail
    refine (HN.out _ C_2).mono ?_
    rintro e w2 ⟨rfl, hb2⟩
    clear xc0 xc1 xc2 xc3 xc4 xlt
    have C_4 : Below w.heap.size w w2 := C_2.trans (hb2.mono C_2.size)
    clear C_2
    have X_5 := hide (X_3.out.below hb2)
    clear X_3
    clear hb2
    go_wp2_with fail
    refine bodyPost_ret (v := .tuple #[.bool R, .int .i64 0]) (by simp [results, Tryz.results76, go_sem]) rfl ⟨rfl, C_4⟩
  · have h0' : (asI x 3 == 0) = false := by rw [beq_eq_false_iff_ne]; exact h0
    rw [hasE, if_neg h0]
    clear h0 HN
    generalize asI x 3 = E at *
    generalize x.k = k at *
    generalize x.t = t at *
    generalize x.l.length = n1 at *
    generalize x.p.length = n2 at *
    generalize x.s.length = n3 at *
    go_enter Tryz.func76, Tryz.ntmps76
    go_wp2_with fail
    have C_0 : Below w.heap.size w (w.alloc (.cells #[.int .i64 k, .string t, .slice a1 n1 c1, .slice a2 n2 c2, .slice a3 n3 c3] 28)) := (Below.refl _ w).alloc (Nat.le_refl _) _
    have X_1 := hide (BoxAt.new w (.int .i64 k) (.string t) (.slice a1 n1 c1) (.slice a2 n2 c2) (.slice a3 n3 c3) 28)
    refine (HC.out _ C_0).mono ?_
    rintro e w1 ⟨rfl, hb1⟩
    have C_2 : Below w.heap.size w w1 := C_0.trans (hb1.mono C_0.size)
    clear C_0
    have X_3 := hide (X_1.out.below hb1)
    clear X_1
    clear hb1
    obtain ⟨xc0, xc1, xc2, xc3, xc4, xlt⟩ := X_3.out
    go_wp2_with fail
    refine bodyPost_ret (v := .tuple #[.bool false, .int .i64 E]) (by simp [results, Tryz.results76, go_sem]) rfl ⟨rfl, C_2⟩
end Go.Proofs.YtcidoodaiimhfaaGreat
namespace Go.Proofs.YtcidoodaiimhfaaGreat
open Go.RowKit Go.Lib Go.Sort Go.Shelf

set_option maxRecDepth 100000 in
theorem goes_any (b : Nat) (al : Option Addr) (cl : Nat) (l : List ByteArray) (s : ByteArray) (W : World) (hc : W.cell? ⟨b, 0, none⟩ = some (.slice al l.length cl)) (hl : TextsAt W al l) (hn : l.length ≤ 281474976710656) :
    Calls Tryz.prog 100 #[.string s, .pointer (some ⟨b, 0, none⟩)] W fun e w' => e = .returned (.bool (hasT l s)) ∧ w' = W := by
  have HN := hide (contains_any al cl l s W hl hn)
  clear hl
  generalize hasT l s = R at *
  go_enter Tryz.func100, Tryz.ntmps100
  go_wp2_with fail
  refine HN.out.mono ?_
  rintro e w1 ⟨rfl, rfl⟩
  go_wp2_with fail
  go_ret
  exact ⟨rfl, rfl⟩
theorem goes_gives (b : Nat) (al : Option Addr) (cl : Nat) (l : List ByteArray) (s : List UInt8) (W : World) (hc : W.cell? ⟨b, 0, none⟩ = some (.slice al l.length cl)) (hl : TextsAt W al l) (hn : l.length ≤ 281474976710656) :
    FnGives Tryz.prog 100 #[.pointer (some ⟨b, 0, none⟩)] #[encStr s] (.bool (hasT l ⟨s.toArray⟩)) W := by
  show Calls Tryz.prog 100 #[.string ⟨s.toArray⟩, .pointer (some ⟨b, 0, none⟩)] W _
  exact (goes_any b al cl l ⟨s.toArray⟩ W hc hl hn).mono fun _ _ ⟨h1, h2⟩ => ⟨h1, 0, by rw [h2]; rfl⟩
theorem row_cut {w : World} {base e g n m cap : Nat} {xs : List Value} (h : w.ownsRow base e 1 (.slice (some ⟨g, 0, none⟩) n cap) n xs) (hm : m ≤ n) : w.ownsRow base e 1 (.slice (some ⟨g, 0, none⟩) m cap) m (xs.take m) := by
  have hl := h.1
  rcases h.2 with ⟨h0, _⟩ | ⟨g', cap', cur, hv, hb, hgg, h1, h2, h3, h4⟩
  · cases h0
  · injection hv with e1 e2 e3
    injection e1 with e1
    injection e1 with e1 _ _
    subst e1 e3
    refine ⟨by rw [List.length_take]; omega, .inr ⟨_, _, cur, rfl, hb, hgg, by omega, h2, h3, ?_⟩⟩
    rw [← h4, List.take_take]
    congr 1
    omega
theorem strs_bytes (l : List ByteArray) : (bytesL l).map encStr = strs l := by
  unfold bytesL strs
  rw [List.map_map]
  rfl
theorem bytes_filter (p : ByteArray → Bool) (l : List ByteArray) : (bytesL l).filter (fun b => !p ⟨b.toArray⟩) = bytesL (l.filter fun t => !p t) := by
  unfold bytesL
  rw [List.filter_map]
  congr 1
theorem bytesL_len (l : List ByteArray) : (bytesL l).length = l.length := by simp [bytesL]
def stayL (L l : List ByteArray) : List ByteArray := L.filter fun t => !hasT l t
theorem stayL_len (L l : List ByteArray) : (stayL L l).length ≤ L.length := List.length_filter_le _ _
theorem delSome_any (b : Nat) (al : Option Addr) (cl : Nat) (l : List ByteArray) (g cap : Nat) (L : List ByteArray) (w0 w : World) (hrow : w.ownsRow w0.heap.size 9 1 (.slice (some ⟨g, 0, none⟩) L.length cap) L.length (strs L)) (hb : Below w0.heap.size w0 w)
    (hc : w0.cell? ⟨b, 0, none⟩ = some (.slice al l.length cl)) (hl : TextsAt w0 al l) (hn : l.length ≤ 281474976710656) (hL : L.length ≤ 281474976710656) :
    Calls Tryz.prog 98 #[.slice (some ⟨g, 0, none⟩) L.length cap, .func (.func 100) #[] #[.pointer (some ⟨b, 0, none⟩)]] w fun e w' => e = .returned (.slice (some ⟨g, 0, none⟩) (stayL L l).length cap) ∧ w'.ownsRow w0.heap.size 9 1 (.slice (some ⟨g, 0, none⟩) (stayL L l).length cap) (stayL L l).length (strs (stayL L l)) ∧ Below w0.heap.size w0 w' := by
  rcases hrow.2 with ⟨h0, _⟩ | ⟨g', cap', cur, hv, hbg, hgg, h1, h2, h3, h4⟩
  · cases h0
  injection hv with e1 e2 e3
  injection e1 with e1
  injection e1 with e1 _ _
  subst e1 e3
  have hH : Holds encStr w g 0 (bytesL L).toArray := holds_of_block hgg (by rw [bytesL_len, strs_bytes]; simpa using h4)
  have hlow : ∀ W, Below w0.heap.size w0 W → W.cell? ⟨b, 0, none⟩ = some (.slice al l.length cl) ∧ TextsAt W al l := fun W hW => ⟨(hW.cell (p := ⟨b, 0, none⟩) (World.block_lt_of_cell? _ _ hc)).trans hc, hl.below hW⟩
  have eg : ∀ args w, (callFunc 100 args).run Tryz.prog w = .ok (.enter 100 args) w := enters_of Tryz.func100 (by kernel_rfl) rfl
  have hp : PredAt Tryz.prog 100 #[.pointer (some ⟨b, 0, none⟩)] encStr (fun s => hasT l ⟨s.toArray⟩) w := fun W x hW => by
    have hWW : Below w0.heap.size w0 W := hb.trans (hW.mono hb.size)
    exact goes_gives b al cl l x W (hlow W hWW).1 (hlow W hWW).2 hn
  have hpo : PredOver Tryz.prog 100 #[.pointer (some ⟨b, 0, none⟩)] encStr (fun s => hasT l ⟨s.toArray⟩) g 0 (bytesL L).toArray.size w := fun n os dk x _ => by
    have hWW : Below w0.heap.size w0 (sortWorld encStr w g 0 n dk os) := hb.grown (grownBy_sorted dk) hb.size (fun j hj => by cases hj; exact hbg)
    exact goes_gives b al cl l x _ (hlow _ hWW).1 (hlow _ hWW).2 hn
  have hh := AnyE.slices_DeleteFunc Tryz.layDel encStr (fun _ => rfl) (fun s => hasT l ⟨s.toArray⟩) 100 #[.pointer (some ⟨b, 0, none⟩)] eg [] Tryz.zeroValue9 g 0 cap (bytesL L).toArray w hp hpo hH (by simp [bytesL_len]; omega) (by simp [bytesL_len]; omega)
  change Calls Tryz.prog 98 _ _ _ at hh
  rw [List.size_toArray, bytesL_len, bytes_filter (hasT l) L] at hh
  refine hh.mono ?_
  rintro e w' ⟨rfl, q, rfl⟩
  have hfl : (bytesL (L.filter fun t => !hasT l t)).length = (stayL L l).length := bytesL_len _
  have hle := stayL_len L l
  refine ⟨by rw [hfl], ?_, ?_⟩
  · have ho := ownsRow_sorted (n := q) (os := #[]) (ss := bytesL L) (ts := bytesL (L.filter fun t => !hasT l t) ++ List.replicate (L.length - (bytesL (L.filter fun t => !hasT l t)).length) []) (base := w0.heap.size) (by rw [List.length_append, List.length_replicate, hfl, bytesL_len]; omega) hbg hgg (by rw [bytesL_len]; exact h1) h2 h3
    rw [grow_empty] at ho
    have hcut := row_cut ho (m := (stayL L l).length) (by rw [bytesL_len]; exact hle)
    rw [List.map_append, strs_bytes, List.take_append_of_le_length (by simp [strs, stayL]), List.take_of_length_le (by simp [strs, stayL])] at hcut
    exact hcut
  · have hg2 := grownBy_sorted (w := w) (g := g) (n := q) (os := #[]) (bytesL (L.filter fun t => !hasT l t) ++ List.replicate (L.length - (bytesL (L.filter fun t => !hasT l t)).length) []).toArray
    rw [grow_empty] at hg2
    exact hb.grown hg2 hb.size (fun j hj => by cases hj; exact hbg)
set_option maxRecDepth 100000 in
set_option maxHeartbeats 1000000 in
theorem delNone_any (a : Option Addr) (cap : Nat) (fv : Value) (w : World) :
    Calls Tryz.prog 98 #[.slice a 0 cap, fv] w fun e w' => e = .returned (.slice a 0 cap) ∧ w' = w := by
  have HI := hide (AnyE.slices_IndexFunc_empty (P := Tryz.prog) (ρ := Tryz.layDel_ren) { Tryz.layDel with } a cap fv w)
  have HI2 : Hid (Calls Tryz.prog 153 #[.slice a 0 cap, fv] w fun e w' => e = .returned (.int .i64 (-1)) ∧ w' = w) := HI.out
  clear HI
  go_enter Tryz.func98, Tryz.ntmps98
  go_wp2_with fail
  refine HI2.out.mono ?_
  rintro e w1 ⟨rfl, rfl⟩
  go_wp2_with fail
  go_ret
  exact ⟨rfl, rfl⟩
/-- a copy, without these -/
theorem clone_any (a : Option Addr) (c : Nat) (L : List ByteArray) (w : World) (hL : TextsAt w a L) (hn : L.length ≤ 1000000) :
    Calls Tryz.prog 99 #[.slice a L.length c] w fun e w' => ∃ a' cap, e = .returned (.slice a' L.length cap) ∧ Below w.heap.size w w' ∧ (L ≠ [] → ∃ g, a' = some ⟨g, 0, none⟩ ∧ w'.ownsRow w.heap.size 9 1 (.slice (some ⟨g, 0, none⟩) L.length cap) L.length (strs L)) := by
  by_cases hne : L = []
  · subst hne
    cases a with
    | none =>
      refine (Tryz.slices_Clone_string_nil 0 c w).mono ?_
      rintro e w' ⟨rfl, rfl⟩
      exact ⟨none, 0, rfl, Below.refl _ _, fun h => absurd rfl h⟩
    | some ad =>
      refine (Tryz.slices_Clone_string_zero ad c w).mono ?_
      rintro e w' ⟨v', rfl, hown, _, hb⟩
      obtain ⟨ao, cp, rfl⟩ := slice_own hown
      exact ⟨ao, cp, rfl, hb, fun h => absurd rfl h⟩
  · obtain ⟨g0, o0, rfl, hc⟩ : ∃ g o, a = some ⟨g, o, none⟩ ∧ ∀ i (h : i < L.length), w.cell? ⟨g, o + i, none⟩ = some (.string L[i]) := by
      rcases hL with h | h
      · exact absurd h hne
      · exact h
    refine (Tryz.slices_Clone_string g0 o0 L.length c L w (Nat.le_refl _) (by omega) (fun j hj => by rw [hc j hj]; simp [hj])).mono ?_
    rintro e w' ⟨v', rfl, hown, hnn, hb⟩
    rw [List.take_length] at hown
    rcases hown.2 with ⟨hv, _⟩ | ⟨g, cap, cur, rfl, hbg, hgg, rest⟩
    · exact absurd hv hnn
    · exact ⟨_, _, rfl, hb, fun _ => ⟨g, rfl, hown⟩⟩
theorem delete_any (b : Nat) (al : Option Addr) (cl : Nat) (l : List ByteArray) (a' : Option Addr) (cap : Nat) (L : List ByteArray) (w0 w : World) (hb : Below w0.heap.size w0 w) (hrow : L ≠ [] → ∃ g, a' = some ⟨g, 0, none⟩ ∧ w.ownsRow w0.heap.size 9 1 (.slice (some ⟨g, 0, none⟩) L.length cap) L.length (strs L))
    (hc : w0.cell? ⟨b, 0, none⟩ = some (.slice al l.length cl)) (hl : TextsAt w0 al l) (hn : l.length ≤ 281474976710656) (hL : L.length ≤ 281474976710656) :
    Calls Tryz.prog 98 #[.slice a' L.length cap, .func (.func 100) #[] #[.pointer (some ⟨b, 0, none⟩)]] w fun e w' => e = .returned (.slice a' (stayL L l).length cap) ∧ (∀ W, (∀ g o u, w0.heap.size ≤ g → w'.cell? ⟨g, o, none⟩ = some u → w'.frozen? ⟨g, o, none⟩ = false → W.cell? ⟨g, o, none⟩ = some u) → TextsAt W a' (stayL L l)) ∧ Below w0.heap.size w0 w' := by
  by_cases hne : L = []
  · subst hne
    refine (delNone_any a' cap _ w).mono ?_
    rintro e w' ⟨rfl, rfl⟩
    exact ⟨rfl, fun W _ => .inl rfl, hb⟩
  · obtain ⟨g, rfl, hown⟩ := hrow hne
    refine (delSome_any b al cl l g cap L w0 w hown hb hc hl hn hL).mono ?_
    rintro e w' ⟨rfl, h1, h2⟩
    exact ⟨rfl, fun W hW => texts_ownF h1 hW, h2⟩
end Go.Proofs.YtcidoodaiimhfaaGreat

/- WALK of Remove of sets. -/
namespace Go.Proofs.YtcidoodaiimhfaaGreat
open Go.RowKit

theorem less_stay (L l : List ByteArray) : lessK L l = stayL L l := by
  have h : ∀ k, k ≤ L.length → keptTo (fun _ t => hasT l t) L k = stayL (L.take k) l := fun k => by
    induction k with
    | zero => intro _; rfl
    | succ k ih =>
      intro hk
      have hlt : k < L.length := by omega
      rw [List.take_succ_eq_append_getElem hlt, stayL, List.filter_append, ← stayL, ← ih (by omega)]
      cases hx : hasT l L[k] with
      | true => rw [keptTo_go hlt hx]; simp [hx]
      | false => rw [keptTo_stay hlt hx]; simp [hx]
  have := h L.length (Nat.le_refl _)
  rw [List.take_length] at this
  exact this
theorem asI_set {x : Itm} (h : asI x 3 = 0) : Rises x.l ∧ x.l.length ≤ 24 ∧ (∀ t ∈ x.l, t.size ≤ 60) := by
  unfold asI at h
  split at h
  · rename_i hn
    unfold Itm.isNone at hn
    rw [decide_eq_true_eq] at hn
    rw [hn.2.2.1]
    exact ⟨List.Pairwise.nil, by simp, by simp⟩
  · split at h
    · rename_i h1; exact absurd h h1
    · rename_i h1
      have h1 : chkI x = 0 := by simpa using h1
      split at h
      · cases h
      · rename_i hk
        have hk : x.k = 3 := by simpa using hk
        have R := right_of h1
        refine ⟨?_, R.ln, R.lz⟩
        unfold chkI at h1
        rw [if_neg (by omega)] at h1
        split at h1
        · cases h1
        · rw [if_neg (by omega)] at h1
          try rw [if_pos hk] at h1
          unfold setT at h1
          split at h1
          · rename_i h2; exact absurd h1 h2
          · split at h1
            · rename_i h3; exact rises_of_riseTo h3
            · cases h1
theorem setOf_item {p : World → Prop} {ao : Option Addr} {cp : Nat} {K : List ByteArray} (hT : ∀ W, p W → TextsAt W ao K) (hz : ∀ t ∈ K, t.size ≤ maxLen) (hl : K.length ≤ 281474976710656) :
    ∃ (fk : Int) (fa : Option Addr) (fn fc : Nat), (∀ W, Calls Tryz.prog 97 #[.slice ao K.length cp] W fun e w' => e = .returned (.agg #[.int .i64 fk, .string ⟨#[]⟩, .slice fa fn fc, .slice none 0 0, .slice none 0 0]) ∧ Below W.heap.size W w') ∧ ∀ W, p W → ItemIs W (.agg #[.int .i64 fk, .string ⟨#[]⟩, .slice fa fn fc, .slice none 0 0, .slice none 0 0]) (kindI 3 K) := by
  by_cases h0 : K = []
  · subst h0
    refine ⟨0, none, 0, 0, fun W => ?_, fun w' _ => zero_is w'⟩
    have := setOf_any ao 0 cp W (by omega)
    rw [if_pos rfl] at this
    exact this
  · refine ⟨3, ao, K.length, cp, fun W => ?_, fun w' hw => ?_⟩
    · have := setOf_any ao K.length cp W hl
      rw [if_neg (fun e => h0 (List.eq_nil_of_length_eq_zero e))] at this
      exact this
    · rw [kindI, if_neg h0]
      exact ⟨⟨ao, cp, none, 0, none, 0, rfl, hT w' hw, .inl rfl, .inl rfl⟩, (show (0 : Nat) ≤ maxLen by simp), hz, by simp, by simp, hl, by simp, by simp⟩
set_option maxRecDepth 100000 in
set_option maxHeartbeats 4000000 in
theorem setRemove_own (v : Value) (x : Itm) (al : Option Addr) (cl : Nat) (l : List ByteArray) (w : World) (h : ItemIs w v x) (hl : TextsAt w al l) (hll : l.length ≤ 281474976710656) :
    Calls Tryz.prog 39 #[v, .slice al l.length cl] w fun e w' => ∃ u, e = .returned (.tuple #[u, .int .i64 (remofN x 3 l), .int .i64 (asI x 3)]) ∧ ItemOwn w.heap.size w' u (remofI x 3 l) ∧ Below w.heap.size w w' := by
  have HC : Hid (∀ W, Below w.heap.size w W → Calls Tryz.prog 85 #[v, .int .i64 3] W fun e w' => e = .returned (.int .i64 (asI x 3)) ∧ Below W.heap.size W w') := fun W hW => common_any v x 3 W (h.below hW)
  obtain ⟨⟨a1, c1, a2, c2, a3, c3, rfl, hx1, -, -⟩, tz, lz, -, -, -, -, -⟩ := h
  by_cases h0 : asI x 3 = 0
  · obtain ⟨-, hx24, -⟩ := asI_set h0
    rw [remofI, if_pos h0, remofN, if_pos h0, h0, less_stay]
    rw [h0] at HC
    have HX := hide hx1
    have HL := hide hl
    have HZ : Hid (∀ t ∈ stayL x.l l, t.size ≤ maxLen) := fun t ht => lz t (List.mem_filter.1 ht).1
    have HCL : Hid (∀ W, Below w.heap.size w W → Calls Tryz.prog 99 #[.slice a1 x.l.length c1] W fun e w' => ∃ a' cap, e = .returned (.slice a' x.l.length cap) ∧ Below W.heap.size W w' ∧ ∀ b, W.cell? ⟨b, 0, none⟩ = some (.slice al l.length cl) → Calls Tryz.prog 98 #[.slice a' x.l.length cap, .func (.func 100) #[] #[.pointer (some ⟨b, 0, none⟩)]] w' fun e w'' => e = .returned (.slice a' (stayL x.l l).length cap) ∧ (∀ W', (∀ g o u, W.heap.size ≤ g → w''.cell? ⟨g, o, none⟩ = some u → w''.frozen? ⟨g, o, none⟩ = false → W'.cell? ⟨g, o, none⟩ = some u) → TextsAt W' a' (stayL x.l l)) ∧ Below W.heap.size W w'') := fun W hW => (clone_any a1 c1 x.l W (HX.out.below hW) (by omega)).mono fun e w' ⟨a', cap, h1, h2, h3⟩ => ⟨a', cap, h1, h2, fun b hc => delete_any b al cl l a' cap x.l W w' h2 h3 hc (HL.out.below hW) hll (by omega)⟩
    have hkl := stayL_len x.l l
    clear h0 hx1 hl lz HX HL
    generalize stayL x.l l = K at *
    generalize x.l.length = n1 at *
    generalize x.t = t at *
    generalize x.k = k at *
    generalize x.p.length = n2 at *
    generalize x.s.length = n3 at *
    go_enter Tryz.func39, Tryz.ntmps39
    go_wp2_with fail
    refine (HC.out _ ((((Below.refl _ w).alloc (Nat.le_refl _) _).alloc (by simp) _).alloc (by simp; omega) _)).mono ?_
    rintro e w1 ⟨rfl, hb1⟩
    obtain ⟨hc, hf⟩ := bcell hb1
    have hz : w.heap.size + 2 < w1.heap.size := by have := hb1.size; simp at this; omega
    have hB1 : Below w.heap.size w w1 := ((((Below.refl _ w).alloc (Nat.le_refl _) _).alloc (by simp) _).alloc (by simp; omega) _).trans (hb1.mono (by simp; omega))
    have y0 : w.heap.size < w1.heap.size := by omega
    have y1 : w.heap.size + 1 < w1.heap.size := by omega
    go_wp2_with fail
    refine (HCL.out _ hB1).mono ?_
    rintro e w2 ⟨a', cap, rfl, hb2, HD⟩
    have HDD := hide (HD (w.heap.size + 1) ((hc _ _ (by simp)).trans (by simp [go_sem])))
    clear HD HCL HC
    have z2 := hb2.size
    go_wp2_with fail
    refine HDD.out.mono ?_
    rintro e w3 ⟨rfl, hT, hb3⟩
    have HT := hide hT
    clear hT HDD hb2
    have z3 := hb3.size
    have B3 : Below w.heap.size w w3 := hB1.trans (hb3.mono hB1.size)
    obtain ⟨fk, fa, fn, fc, ho, hi⟩ := setOf_item (p := fun W' => ∀ g o u, w1.heap.size ≤ g → w3.cell? ⟨g, o, none⟩ = some u → w3.frozen? ⟨g, o, none⟩ = false → W'.cell? ⟨g, o, none⟩ = some u) (cp := cap) HT.out HZ.out (by omega)
    have HO := hide ho
    have HI := hide hi
    clear ho hi HT HZ
    have HBX : Hid (∀ W, Below w1.heap.size w1 W → (W.cell? ⟨w.heap.size + 2, 0, none⟩ = some (.int .i64 0) ∧ W.cell? ⟨w.heap.size + 2, 1, none⟩ = some (.string ⟨#[]⟩) ∧ W.cell? ⟨w.heap.size + 2, 2, none⟩ = some (.slice none 0 0) ∧ W.cell? ⟨w.heap.size + 2, 3, none⟩ = some (.slice none 0 0) ∧ W.cell? ⟨w.heap.size + 2, 4, none⟩ = some (.slice none 0 0)) ∧ (∀ j, W.frozen? ⟨w.heap.size + 2, j, none⟩ = false) ∧ W.cell? ⟨w.heap.size, 2, none⟩ = some (.slice a1 n1 c1)) := fun W hW =>
      ⟨⟨(hW.cell (p := ⟨w.heap.size + 2, 0, none⟩) hz).trans ((hc _ _ (by simp)).trans (by simp [go_sem])), (hW.cell (p := ⟨w.heap.size + 2, 1, none⟩) hz).trans ((hc _ _ (by simp)).trans (by simp [go_sem])), (hW.cell (p := ⟨w.heap.size + 2, 2, none⟩) hz).trans ((hc _ _ (by simp)).trans (by simp [go_sem])), (hW.cell (p := ⟨w.heap.size + 2, 3, none⟩) hz).trans ((hc _ _ (by simp)).trans (by simp [go_sem])), (hW.cell (p := ⟨w.heap.size + 2, 4, none⟩) hz).trans ((hc _ _ (by simp)).trans (by simp [go_sem]))⟩, fun j => (hW.frozen (p := ⟨w.heap.size + 2, j, none⟩) hz).trans ((hf _ _ (by simp)).trans (by simp [go_sem])), (hW.cell (p := ⟨w.heap.size, 2, none⟩) y0).trans ((hc _ _ (by simp; omega)).trans (by simp [go_sem]))⟩
    obtain ⟨-, -, x2⟩ := HBX.out w3 hb3
    have hbd : Below w1.heap.size w1 w3.drew := hb3.drew
    have nn1 : w3.heap.size ≠ w.heap.size + 2 := by omega
    have nn2 : w.heap.size + 2 ≠ w3.heap.size := by omega
    have nn3 : w.heap.size ≠ w.heap.size + 1 + 1 := by omega
    have nn4 : w.heap.size + 1 + 1 ≠ w.heap.size := by omega
    have nn5 : ¬ w.heap.size = w.heap.size + 1 + 1 := by omega
    have hwr := wrap_small (((n1 : Nat) : Int) - ((K.length : Nat) : Int)) (by omega) (by omega)
    have hzl := hb3.size
    have hz1 := hB1.size
    clear hc hf hb1
    go_wp2_with fail
    go_region_held3 (fun w' => w'.cell? ⟨w.heap.size, 2, none⟩ = some (.slice a1 n1 c1)) (go_keep)
      ((go_at_call 97; refine (HO.out _).mono ?_; rintro e w9 ⟨rfl, hb9⟩; have hb9' : Below w1.heap.size w1 w9 := hbd.trans (hb9.mono hzl); obtain ⟨⟨b0, b1, b2, b3, b4⟩, fz, x3⟩ := HBX.out w9 hb9'; have fz0 := fz 0; have fz1 := fz 1; have fz2 := fz 2; have fz3 := fz 3; have fz4 := fz 4))
    all_goals
      go_wp2_with fail
      refine bodyPost_ret (v := .tuple #[.agg #[.int .i64 fk, .string ⟨#[]⟩, .slice fa fn fc, .slice none 0 0, .slice none 0 0], .int .i64 (((n1 : Nat) : Int) - ((K.length : Nat) : Int)), .int .i64 0]) (by simp [results, Tryz.results39, go_sem, b0, b1, b2, b3, b4]) rfl ⟨_, rfl, ?_, ?_⟩
      · exact fun w'' hw => HI.out w'' (fun g' o' u' hg hu hf => hw g' o' u' (by omega) ((five_apart w9 (w.heap.size + 2) _ _ _ _ _ g' o' (by omega)).trans ((hb9.cell (p := ⟨g', o', none⟩) (World.block_lt_of_cell? w3 _ hu)).trans hu)) (by simp only [World.frozen?_setCell]; exact (hb9.frozen (p := ⟨g', o', none⟩) (World.block_lt_of_cell? w3 _ hu)).trans hf))
      · have hb9'' := hB1.trans (hb9'.mono hz1)
        go_grown
  · rw [remofI, remofN, if_neg h0, if_neg h0]
    have h0' : (asI x 3 == 0) = false := by rw [beq_eq_false_iff_ne]; exact h0
    clear hx1 hl
    generalize asI x 3 = E at *
    generalize x.l = L at *
    generalize x.t = t at *
    generalize x.k = k at *
    generalize x.p.length = n2 at *
    generalize x.s.length = n3 at *
    go_enter Tryz.func39, Tryz.ntmps39
    go_wp2_with fail
    refine (HC.out _ ((((Below.refl _ w).alloc (Nat.le_refl _) _).alloc (by simp) _).alloc (by simp; omega) _)).mono ?_
    rintro e w1 ⟨rfl, hb1⟩
    obtain ⟨hc, hf⟩ := bcell hb1
    have hz : w.heap.size + 2 < w1.heap.size := by have := hb1.size; simp at this; omega
    have hB1 : Below w.heap.size w w1 := ((((Below.refl _ w).alloc (Nat.le_refl _) _).alloc (by simp) _).alloc (by simp; omega) _).trans (hb1.mono (by simp; omega))
    go_wp2_with fail
    refine bodyPost_ret (v := .tuple #[.agg #[.int .i64 0, .string ⟨#[]⟩, .slice none 0 0, .slice none 0 0, .slice none 0 0], .int .i64 0, .int .i64 E]) (by simp [results, Tryz.results39, go_sem, hc]) rfl ⟨_, rfl, fun w'' _ => zero_is w'', ?_⟩
    go_grown
theorem setRemove_any (v : Value) (x : Itm) (al : Option Addr) (cl : Nat) (l : List ByteArray) (w : World) (h : ItemIs w v x) (hl : TextsAt w al l) (hll : l.length ≤ 281474976710656) :
    Calls Tryz.prog 39 #[v, .slice al l.length cl] w fun e w' => ∃ u, e = .returned (.tuple #[u, .int .i64 (remofN x 3 l), .int .i64 (asI x 3)]) ∧ ItemFrom w.heap.size w' u (remofI x 3 l) ∧ Below w.heap.size w w' :=
  (setRemove_own v x al cl l w h hl hll).mono fun _ _ ⟨u, he, hi, hb⟩ => ⟨u, he, hi.from, hb⟩
end Go.Proofs.YtcidoodaiimhfaaGreat

/- WALKS of sets: what lies together, sorted, each once. -/
namespace Go.Proofs.YtcidoodaiimhfaaGreat
open Go.RowKit Go.Lib Go.Sort Go.Shelf

set_option maxRecDepth 100000 in
set_option maxHeartbeats 1000000 in
theorem grow0_any (w : World) : Calls Tryz.prog 156 #[.slice none 0 0, .int .i64 0] w fun e w' => e = .returned (.slice none 0 0) ∧ w' = w := by
  go_enter Tryz.func156, Tryz.ntmps156
  go_wp2_with fail
  go_ret
  exact ⟨rfl, rfl⟩
set_option maxRecDepth 100000 in
set_option maxHeartbeats 2000000 in
theorem concat0_any (g : Nat) (a1 a2 : Option Addr) (c1 c2 : Nat) (w : World) (h0 : w.cell? ⟨g, 0, none⟩ = some (.slice a1 0 c1)) (h1 : w.cell? ⟨g, 1, none⟩ = some (.slice a2 0 c2)) :
    Calls Tryz.prog 94 #[.slice (some ⟨g, 0, none⟩) 2 2] w fun e w' => (∃ a' cap, e = .returned (.slice a' 0 cap)) ∧ Below w.heap.size w w' := by
  have HG := hide (grow0_any w)
  have T1 : TextsAt w a1 [] := .inl rfl
  have T2 : TextsAt w a2 [] := .inl rfl
  have hown : w.ownsRow w.heap.size 9 1 (.slice none 0 0) 0 [] := World.ownsRow_nil _ _ _ _
  go_enter Tryz.func94, Tryz.ntmps94
  go_wp2_with fail
  refine wp_loop_rounds 3 ?_
  rw [rounds_succ]
  go_wp2_with fail
  rw [rounds_succ]
  go_wp2_with fail
  rw [rounds_succ]
  go_wp2_with fail
  refine HG.out.mono ?_
  rintro e w1 ⟨rfl, rfl⟩
  go_wp2_with fail
  refine wp_loop_rounds 3 ?_
  rw [rounds_succ]
  go_wp2_with (at_builtin; refine wpList_append_texts rfl _ _ rfl w1.heap.size _ 0 [] rfl hown a1 c1 [] rfl T1 (by simp) (Nat.le_refl _) ?_)
  intro v2 w2 hown2 hg2
  have hb2 : Below w1.heap.size w1 w2 := (Below.refl _ _).grown hg2 (Nat.le_refl _) (fun j hj => by cases hj)
  have hz2 := hb2.size
  have hgl : g < w1.heap.size := World.block_lt_of_cell? _ _ h0
  have k0 : w2.cell? ⟨g, 0, none⟩ = some (.slice a1 0 c1) := (hb2.cell (p := ⟨g, 0, none⟩) hgl).trans h0
  have k1 : w2.cell? ⟨g, 1, none⟩ = some (.slice a2 0 c2) := (hb2.cell (p := ⟨g, 1, none⟩) hgl).trans h1
  obtain ⟨av, cv, rfl⟩ := slice_own hown2
  go_wp2_with fail
  rw [rounds_succ]
  go_wp2_with (at_builtin; refine wpList_append_texts rfl _ _ rfl w1.heap.size _ _ _ rfl hown2 a2 c2 [] rfl (.inl rfl) (by simp) hz2 ?_)
  intro v3 w3 hown3 hg3
  have hb3 : Below w1.heap.size w1 w3 := hb2.grown hg3 hz2 (fun j hj => (hown2.lt j hj).1)
  obtain ⟨av3, cv3, rfl⟩ := slice_own hown3
  go_wp2_with fail
  rw [rounds_succ]
  go_wp2_with fail
  go_ret
  exact ⟨⟨_, _, rfl⟩, hb3⟩
/-- two lists in one -/
theorem concatS_any (g : Nat) (a1 a2 : Option Addr) (c1 c2 : Nat) (l1 l2 : List ByteArray) (w : World) (h0 : w.cell? ⟨g, 0, none⟩ = some (.slice a1 l1.length c1)) (h1 : w.cell? ⟨g, 1, none⟩ = some (.slice a2 l2.length c2)) (hl1 : TextsAt w a1 l1) (hl2 : TextsAt w a2 l2) (hn : l1.length + l2.length ≤ 2000000) :
    Calls Tryz.prog 94 #[.slice (some ⟨g, 0, none⟩) 2 2] w fun e w' => ∃ a' cap, e = .returned (.slice a' (l1 ++ l2).length cap) ∧ Below w.heap.size w w' ∧ (l1 ++ l2 ≠ [] → ∃ g, a' = some ⟨g, 0, none⟩ ∧ w'.ownsRow w.heap.size 9 1 (.slice (some ⟨g, 0, none⟩) (l1 ++ l2).length cap) (l1 ++ l2).length (strs (l1 ++ l2))) := by
  by_cases hp : 0 < l1.length + l2.length
  · refine (concat_any g a1 a2 c1 c2 l1 l2 w h0 h1 hl1 hl2 hp hn).mono ?_
    rintro e w' ⟨v, rfl, hown, hb⟩
    obtain ⟨gg, cap, rfl, _, _⟩ := hown.form (by rw [List.length_append]; exact hp)
    exact ⟨_, cap, rfl, hb, fun _ => ⟨gg, rfl, hown⟩⟩
  · obtain rfl : l1 = [] := List.eq_nil_of_length_eq_zero (by omega)
    obtain rfl : l2 = [] := List.eq_nil_of_length_eq_zero (by omega)
    refine (concat0_any g a1 a2 c1 c2 w h0 h1).mono ?_
    rintro e w' ⟨⟨a', cap, rfl⟩, hb⟩
    exact ⟨a', cap, rfl, hb, fun h => absurd rfl h⟩
/-- sorted -/
def sortL (L : List ByteArray) : List ByteArray := textsL ((bytesL L).mergeSort fun x y => decide (x ≤ y))
theorem sortL_len (L : List ByteArray) : (sortL L).length = L.length := by simp [sortL, textsL, bytesL]
theorem bytes_texts (l : List (List UInt8)) : bytesL (textsL l) = l := by
  unfold bytesL textsL
  rw [List.map_map]
  refine (List.map_congr_left (fun a _ => ?_)).trans (List.map_id l)
  simp
theorem sort_any (a' : Option Addr) (cap : Nat) (L : List ByteArray) (w0 w : World) (hb : Below w0.heap.size w0 w) (hrow : L ≠ [] → ∃ g, a' = some ⟨g, 0, none⟩ ∧ w.ownsRow w0.heap.size 9 1 (.slice (some ⟨g, 0, none⟩) L.length cap) L.length (strs L)) (hn : L.length ≤ 2000000) :
    Calls Tryz.prog 95 #[.slice a' L.length cap] w fun e w' => e = .returned (.tuple #[]) ∧ Below w0.heap.size w0 w' ∧ (L ≠ [] → ∃ g, a' = some ⟨g, 0, none⟩ ∧ w'.ownsRow w0.heap.size 9 1 (.slice (some ⟨g, 0, none⟩) L.length cap) L.length (strs (sortL L))) := by
  by_cases hne : L = []
  · subst hne
    refine (Tryz.slices_Sort_string_none a' cap w).mono ?_
    rintro e w' ⟨rfl, rfl⟩
    exact ⟨rfl, hb, fun h => absurd rfl h⟩
  · obtain ⟨g, rfl, hown⟩ := hrow hne
    rcases hown.2 with ⟨h0, _⟩ | ⟨g', cap', cur, hv, hbg, hgg, h1, h2, h3, h4⟩
    · cases h0
    injection hv with e1 e2 e3
    injection e1 with e1
    injection e1 with e1 _ _
    subst e1 e3
    have hH : Holds encStr w g 0 (bytesL L).toArray := holds_of_block hgg (by rw [bytesL_len, strs_bytes]; simpa using h4)
    have hgl : g < w.heap.size := (hown.lt g rfl).2
    have hh := Tryz.slices_Sort_string g 0 cap (bytesL L) w hH hgl (by rw [bytesL_len]; omega)
    rw [bytesL_len] at hh
    refine hh.mono ?_
    rintro e w' ⟨rfl, n, os, rfl⟩
    refine ⟨rfl, hb.grown (grownBy_sorted _) hb.size (fun j hj => by cases hj; exact hbg), fun _ => ⟨g, rfl, ?_⟩⟩
    have ho := ownsRow_sorted (n := n) (os := os) (ss := bytesL L) (ts := (bytesL L).mergeSort fun x y => decide (x ≤ y)) (base := w0.heap.size) (by simp) hbg hgg (by rw [bytesL_len]; exact h1) h2 h3
    rw [bytesL_len] at ho
    have e : strs (sortL L) = ((bytesL L).mergeSort fun x y => decide (x ≤ y)).map encStr := by rw [← strs_bytes, sortL, bytes_texts]
    rw [e]
    exact ho
/-- each once -/
def compL (L : List ByteArray) : List ByteArray := textsL (Lib.compact (bytesL L))
theorem compL_len (L : List ByteArray) : (compL L).length ≤ L.length := by
  have := Lib.compact_length_le (bytesL L)
  rw [bytesL_len] at this
  simpa [compL, textsL] using this
theorem strsOf_list (l : List ByteArray) : Lib.strsOf (fun i => l.getD i ByteArray.empty) l.length = bytesL l := by
  unfold Lib.strsOf bytesL
  apply List.ext_getElem
  · simp
  · intro i h1 h2
    simp at h1 h2
    simp [h1]
theorem compact_any (a' : Option Addr) (cap n : Nat) (L : List ByteArray) (w0 w : World) (hb : Below w0.heap.size w0 w) (hrow : L ≠ [] → ∃ g, a' = some ⟨g, 0, none⟩ ∧ w.ownsRow w0.heap.size 9 1 (.slice (some ⟨g, 0, none⟩) n cap) n (strs L)) (hn : L.length ≤ 2000000) (hnl : L.length = n) :
    Calls Tryz.prog 96 #[.slice a' n cap] w fun e w' => e = .returned (.slice a' (compL L).length cap) ∧ Below w0.heap.size w0 w' ∧ (∀ W, (∀ g o u, w0.heap.size ≤ g → w'.cell? ⟨g, o, none⟩ = some u → w'.frozen? ⟨g, o, none⟩ = false → W.cell? ⟨g, o, none⟩ = some u) → TextsAt W a' (compL L)) := by
  subst hnl
  by_cases hne : L = []
  · subst hne
    refine (Tryz.slices_Compact_string_empty a' cap w).mono ?_
    rintro e w' ⟨rfl, rfl⟩
    exact ⟨rfl, hb, fun W _ => .inl rfl⟩
  · obtain ⟨g, rfl, hown⟩ := hrow hne
    have hgl : g < w.heap.size := (hown.lt g rfl).2
    have hbg : w0.heap.size ≤ g := (hown.lt g rfl).1
    have hcap : L.length ≤ cap := by
      rcases hown.2 with ⟨h0, _⟩ | ⟨g', cap', cur, hv, _, _, h1, _⟩
      · cases h0
      · injection hv with e1 e2 e3
        omega
    have hcs : ∀ i, i < L.length → w.cell? ⟨g, 0 + i, none⟩ = some (.string (L.getD i ByteArray.empty)) := fun i hi => by
      rw [Nat.zero_add, hown.cellAt i (by omega)]
      simp [strs, hi]
    refine (Tryz.slices_Compact_string_cells g 0 L.length cap (fun i => L.getD i ByteArray.empty) w (by omega) hcap hcs (fun j hj => by rw [Nat.zero_add]; exact hown.frozenAt j)).mono ?_
    rintro e w' ⟨rfl, q, rfl⟩
    rw [strsOf_list]
    have hcl : (compL L).length = (Lib.compact (bytesL L)).length := by simp [compL, textsL]
    have hle := compL_len L
    refine ⟨by rw [hcl], below_setCells g hbg _ 0 _ (below_drewN' hb q), fun W hW => .inr ⟨g, 0, rfl, fun i hi => hW _ _ _ hbg ?_ (by rw [World.frozen?_setCells, Nat.zero_add]; exact hown.frozenAt i)⟩⟩
    have hin := World.cell?_setCells_in g ((Lib.compact (bytesL L) ++ List.replicate (L.length - (Lib.compact (bytesL L)).length) []).map encStr) 0 (w.drewN q) (fun j hj => by
      have hj' : j < L.length := by simp at hj; omega
      have h3 := hcs j hj'
      show (w.cell? ⟨g, 0 + j, none⟩).isSome = true
      rw [h3]
      rfl) i (by simp; omega)
    rw [hin]
    have hi' : i < (Lib.compact (bytesL L)).length := by omega
    simp [compL, textsL, hi', List.getElem_append_left, encStr]
end Go.Proofs.YtcidoodaiimhfaaGreat

/- WALK of Add of sets. -/
namespace Go.Proofs.YtcidoodaiimhfaaGreat
open Go.RowKit

/-- what Add answers -/
def addE (x : Itm) (l : List ByteArray) : Int := if asI x 3 ≠ 0 then asI x 3 else if 24 < (addT x.l l).length ∨ l.any longT = true then 2 else if l = [] then 1 else 0
def addI (x : Itm) (l : List ByteArray) : Itm := if addE x l = 0 then kindI 3 (addT x.l l) else Itm.none
def addN (x : Itm) (l : List ByteArray) : Int := if addE x l = 0 then (((addT x.l l).length : Nat) : Int) - ((x.l.length : Nat) : Int) else 0
theorem comp_sort (l m : List ByteArray) (h : Rises l) : compL (sortL (l ++ m)) = addT l m := by
  unfold compL sortL
  rw [bytes_texts]
  exact compact_all_is l m h
set_option maxRecDepth 100000 in
set_option maxHeartbeats 4000000 in
theorem setAdd_own (v : Value) (x : Itm) (al : Option Addr) (cl : Nat) (l : List ByteArray) (w : World) (h : ItemIs w v x) (hl : TextsAt w al l) (hlz : ∀ t ∈ l, t.size ≤ maxLen) (hll : l.length ≤ 1500000) :
    Calls Tryz.prog 38 #[v, .slice al l.length cl] w fun e w' => ∃ u, e = .returned (.tuple #[u, .int .i64 (addN x l), .int .i64 (addE x l)]) ∧ ItemOwn w.heap.size w' u (addI x l) ∧ Below w.heap.size w w' := by
  have HC : Hid (∀ W, Below w.heap.size w W → Calls Tryz.prog 85 #[v, .int .i64 3] W fun e w' => e = .returned (.int .i64 (asI x 3)) ∧ Below W.heap.size W w') := fun W hW => common_any v x 3 W (h.below hW)
  obtain ⟨⟨a1, c1, a2, c2, a3, c3, rfl, hx1, -, -⟩, tz, lz, -, -, -, -, -⟩ := h
  by_cases h0 : asI x 3 = 0
  · obtain ⟨hrise, hx24, hx60⟩ := asI_set h0
    rw [h0] at HC
    have HX := hide hx1
    have HL := hide hl
    have HZ : Hid (∀ t ∈ addT x.l l, t.size ≤ maxLen) := fun t ht => by
      rcases mem_addT.1 ht with h1 | h1
      · exact lz t h1
      · exact hlz t h1
    have HKL : Hid (∀ W, Below w.heap.size w W → Calls Tryz.prog 86 #[.slice al l.length cl, .func (.func 87) #[] #[]] W fun e w' => e = .returned (.bool (l.any longT)) ∧ Below W.heap.size W w') := fun W hW => containsPushLong_any al cl l W (HL.out.below hW) (by omega)
    have HCAT : Hid (∀ W g, Below w.heap.size w W → W.cell? ⟨g, 0, none⟩ = some (.slice a1 x.l.length c1) → W.cell? ⟨g, 1, none⟩ = some (.slice al l.length cl) → Calls Tryz.prog 94 #[.slice (some ⟨g, 0, none⟩) 2 2] W fun e w' => ∃ a' cap, e = .returned (.slice a' (x.l ++ l).length cap) ∧ Below W.heap.size W w' ∧ Calls Tryz.prog 95 #[.slice a' (x.l ++ l).length cap] w' fun e w'' => e = .returned (.tuple #[]) ∧ Below W.heap.size W w'' ∧ Calls Tryz.prog 96 #[.slice a' (x.l ++ l).length cap] w'' fun e w3 => e = .returned (.slice a' (addT x.l l).length cap) ∧ Below W.heap.size W w3 ∧ (∀ W', (∀ g o u, W.heap.size ≤ g → w3.cell? ⟨g, o, none⟩ = some u → w3.frozen? ⟨g, o, none⟩ = false → W'.cell? ⟨g, o, none⟩ = some u) → TextsAt W' a' (addT x.l l))) := fun W g hW q0 q1 => by
      refine (concatS_any g a1 al c1 cl x.l l W q0 q1 (HX.out.below hW) (HL.out.below hW) (by omega)).mono ?_
      rintro e w' ⟨a', cap, h1, h2, h3⟩
      refine ⟨a', cap, h1, h2, ?_⟩
      refine (sort_any a' cap (x.l ++ l) W w' h2 h3 (by rw [List.length_append]; omega)).mono ?_
      rintro e w'' ⟨h4, h5, h6⟩
      refine ⟨h4, h5, ?_⟩
      have hcc := compact_any a' cap (x.l ++ l).length (sortL (x.l ++ l)) W w'' h5 (fun hne => h6 (fun e => hne (by rw [e]; simp [sortL, bytesL, textsL]))) (by rw [sortL_len, List.length_append]; omega) (sortL_len _)
      rw [comp_sort _ _ hrise] at hcc
      exact hcc
    have hkl := addT_len x.l l
    have HBX' : True := trivial
    clear hx1 hl lz hlz HX HL hrise hx60 HBX'
    by_cases h24 : 24 < (addT x.l l).length
    · have hE : addE x l = 2 := by rw [addE, if_neg (by simp [h0]), if_pos (.inl h24)]
      rw [addN, addI, hE, if_neg (by decide), if_neg (by decide)]
      have h24' : (24 : Int) < (((addT x.l l).length : Nat) : Int) := by omega
      clear hE h0 HZ HKL
      generalize addT x.l l = K at *
      generalize (x.l ++ l).length = NL at *
      generalize x.l.length = n1 at *
      generalize x.t = t at *
      generalize x.k = k at *
      generalize x.p.length = n2 at *
      generalize x.s.length = n3 at *
      go_enter Tryz.func38, Tryz.ntmps38
      go_wp2_with fail
      refine (HC.out _ (((Below.refl _ w).alloc (Nat.le_refl _) _).alloc (by simp) _)).mono ?_
      rintro e w1 ⟨rfl, hb1⟩
      obtain ⟨hc, hf⟩ := bcell hb1
      have hz : w.heap.size + 1 < w1.heap.size := by have := hb1.size; simp at this; omega
      have y0 : w.heap.size < w1.heap.size := by omega
      have hB1 : Below w.heap.size w w1 := (((Below.refl _ w).alloc (Nat.le_refl _) _).alloc (by simp) _).trans (hb1.mono (by simp; omega))
      go_wp2_with fail
      have HBX : Hid (∀ W, Below w1.heap.size w1 W → (W.cell? ⟨w.heap.size + 1, 0, none⟩ = some (.int .i64 0) ∧ W.cell? ⟨w.heap.size + 1, 1, none⟩ = some (.string ⟨#[]⟩) ∧ W.cell? ⟨w.heap.size + 1, 2, none⟩ = some (.slice none 0 0) ∧ W.cell? ⟨w.heap.size + 1, 3, none⟩ = some (.slice none 0 0) ∧ W.cell? ⟨w.heap.size + 1, 4, none⟩ = some (.slice none 0 0)) ∧ (∀ j, W.frozen? ⟨w.heap.size + 1, j, none⟩ = false) ∧ W.cell? ⟨w.heap.size, 2, none⟩ = some (.slice a1 n1 c1)) := fun W hW =>
        ⟨⟨(hW.cell (p := ⟨w.heap.size + 1, 0, none⟩) hz).trans ((hc _ _ (by simp)).trans (by simp [go_sem])), (hW.cell (p := ⟨w.heap.size + 1, 1, none⟩) hz).trans ((hc _ _ (by simp)).trans (by simp [go_sem])), (hW.cell (p := ⟨w.heap.size + 1, 2, none⟩) hz).trans ((hc _ _ (by simp)).trans (by simp [go_sem])), (hW.cell (p := ⟨w.heap.size + 1, 3, none⟩) hz).trans ((hc _ _ (by simp)).trans (by simp [go_sem])), (hW.cell (p := ⟨w.heap.size + 1, 4, none⟩) hz).trans ((hc _ _ (by simp)).trans (by simp [go_sem]))⟩, fun j => (hW.frozen (p := ⟨w.heap.size + 1, j, none⟩) hz).trans ((hf _ _ (by simp)).trans (by simp [go_sem])), (hW.cell (p := ⟨w.heap.size, 2, none⟩) y0).trans ((hc _ _ (by simp; omega)).trans (by simp [go_sem]))⟩
      generalize hW2 : World.alloc w1 _ = W2
      have B12 : Below w1.heap.size w1 W2 := by rw [← hW2]; exact (Below.refl _ _).alloc (Nat.le_refl _) _
      have q0 : W2.cell? ⟨w1.heap.size, 0, none⟩ = some (.slice a1 n1 c1) := by rw [← hW2]; simp [go_sem]
      have q1 : W2.cell? ⟨w1.heap.size, 1, none⟩ = some (.slice al l.length cl) := by rw [← hW2]; simp [go_sem]
      have zz2 : w1.heap.size < W2.heap.size := by rw [← hW2]; simp
      clear hW2
      refine (HCAT.out W2 w1.heap.size (hB1.trans (B12.mono hB1.size)) q0 q1).mono ?_
      rintro e w3 ⟨a', cap, rfl, hb3, hs3⟩
      have HS3 := hide hs3
      clear hs3 HCAT q0 q1
      go_wp2_with fail
      refine HS3.out.mono ?_
      rintro e w4 ⟨rfl, hb4, hs4⟩
      have HS4 := hide hs4
      clear hs4 HS3 hb3
      go_wp2_with fail
      refine HS4.out.mono ?_
      rintro e w5 ⟨rfl, hb5, hT5⟩
      have HT5 := hide hT5
      have hb5' : Below w1.heap.size w1 w5 := B12.trans (hb5.mono B12.size)
      have zz5 := hb5.size
      clear hT5 HS4 hb4
      have hzB := hB1.size
      obtain ⟨⟨r0, r1, r2, r3, r4⟩, fz, x2⟩ := HBX.out w5 hb5'
      have fz0 := fz 0
      have fz1 := fz 1
      have fz2 := fz 2
      have fz3 := fz 3
      have fz4 := fz 4
      go_wp2_with fail
      refine bodyPost_ret (v := .tuple #[.agg #[.int .i64 0, .string ⟨#[]⟩, .slice none 0 0, .slice none 0 0, .slice none 0 0], .int .i64 0, .int .i64 2]) (by simp [results, Tryz.results38, go_sem, r0, r1, r2, r3, r4]) rfl ⟨_, rfl, fun w'' _ => zero_is w'', ?_⟩
      have hbb := hB1.trans (hb5'.mono hB1.size)
      go_grown
    · have h24' : ¬ (24 : Int) < (((addT x.l l).length : Nat) : Int) := by omega
      by_cases hlong : l.any longT = true
      · have hE : addE x l = 2 := by rw [addE, if_neg (by simp [h0]), if_pos (.inr hlong)]
        rw [addN, addI, hE, if_neg (by decide), if_neg (by decide)]
        rw [hlong] at HKL
        clear hE h0 HZ hlong
        generalize addT x.l l = K at *
        generalize (x.l ++ l).length = NL at *
        generalize x.l.length = n1 at *
        generalize x.t = t at *
        generalize x.k = k at *
        generalize x.p.length = n2 at *
        generalize x.s.length = n3 at *
        go_enter Tryz.func38, Tryz.ntmps38
        go_wp2_with fail
        refine (HC.out _ (((Below.refl _ w).alloc (Nat.le_refl _) _).alloc (by simp) _)).mono ?_
        rintro e w1 ⟨rfl, hb1⟩
        obtain ⟨hc, hf⟩ := bcell hb1
        have hz : w.heap.size + 1 < w1.heap.size := by have := hb1.size; simp at this; omega
        have y0 : w.heap.size < w1.heap.size := by omega
        have hB1 : Below w.heap.size w w1 := (((Below.refl _ w).alloc (Nat.le_refl _) _).alloc (by simp) _).trans (hb1.mono (by simp; omega))
        go_wp2_with fail
        have HBX : Hid (∀ W, Below w1.heap.size w1 W → (W.cell? ⟨w.heap.size + 1, 0, none⟩ = some (.int .i64 0) ∧ W.cell? ⟨w.heap.size + 1, 1, none⟩ = some (.string ⟨#[]⟩) ∧ W.cell? ⟨w.heap.size + 1, 2, none⟩ = some (.slice none 0 0) ∧ W.cell? ⟨w.heap.size + 1, 3, none⟩ = some (.slice none 0 0) ∧ W.cell? ⟨w.heap.size + 1, 4, none⟩ = some (.slice none 0 0)) ∧ (∀ j, W.frozen? ⟨w.heap.size + 1, j, none⟩ = false) ∧ W.cell? ⟨w.heap.size, 2, none⟩ = some (.slice a1 n1 c1)) := fun W hW =>
          ⟨⟨(hW.cell (p := ⟨w.heap.size + 1, 0, none⟩) hz).trans ((hc _ _ (by simp)).trans (by simp [go_sem])), (hW.cell (p := ⟨w.heap.size + 1, 1, none⟩) hz).trans ((hc _ _ (by simp)).trans (by simp [go_sem])), (hW.cell (p := ⟨w.heap.size + 1, 2, none⟩) hz).trans ((hc _ _ (by simp)).trans (by simp [go_sem])), (hW.cell (p := ⟨w.heap.size + 1, 3, none⟩) hz).trans ((hc _ _ (by simp)).trans (by simp [go_sem])), (hW.cell (p := ⟨w.heap.size + 1, 4, none⟩) hz).trans ((hc _ _ (by simp)).trans (by simp [go_sem]))⟩, fun j => (hW.frozen (p := ⟨w.heap.size + 1, j, none⟩) hz).trans ((hf _ _ (by simp)).trans (by simp [go_sem])), (hW.cell (p := ⟨w.heap.size, 2, none⟩) y0).trans ((hc _ _ (by simp; omega)).trans (by simp [go_sem]))⟩
        generalize hW2 : World.alloc w1 _ = W2
        have B12 : Below w1.heap.size w1 W2 := by rw [← hW2]; exact (Below.refl _ _).alloc (Nat.le_refl _) _
        have q0 : W2.cell? ⟨w1.heap.size, 0, none⟩ = some (.slice a1 n1 c1) := by rw [← hW2]; simp [go_sem]
        have q1 : W2.cell? ⟨w1.heap.size, 1, none⟩ = some (.slice al l.length cl) := by rw [← hW2]; simp [go_sem]
        have zz2 : w1.heap.size < W2.heap.size := by rw [← hW2]; simp
        clear hW2
        refine (HCAT.out W2 w1.heap.size (hB1.trans (B12.mono hB1.size)) q0 q1).mono ?_
        rintro e w3 ⟨a', cap, rfl, hb3, hs3⟩
        have HS3 := hide hs3
        clear hs3 HCAT q0 q1
        go_wp2_with fail
        refine HS3.out.mono ?_
        rintro e w4 ⟨rfl, hb4, hs4⟩
        have HS4 := hide hs4
        clear hs4 HS3 hb3
        go_wp2_with fail
        refine HS4.out.mono ?_
        rintro e w5 ⟨rfl, hb5, hT5⟩
        have HT5 := hide hT5
        have hb5' : Below w1.heap.size w1 w5 := B12.trans (hb5.mono B12.size)
        have zz5 := hb5.size
        clear hT5 HS4 hb4
        go_wp2_with fail
        refine (HKL.out _ (hB1.trans (hb5'.mono hB1.size))).mono ?_
        rintro e w6 ⟨rfl, hb6⟩
        have hb6' : Below w1.heap.size w1 w6 := hb5'.trans (hb6.mono hb5'.size)
        have hzB := hB1.size
        obtain ⟨⟨r0, r1, r2, r3, r4⟩, fz, x2⟩ := HBX.out w6 hb6'
        have fz0 := fz 0
        have fz1 := fz 1
        have fz2 := fz 2
        have fz3 := fz 3
        have fz4 := fz 4
        go_wp2_with fail
        refine bodyPost_ret (v := .tuple #[.agg #[.int .i64 0, .string ⟨#[]⟩, .slice none 0 0, .slice none 0 0, .slice none 0 0], .int .i64 0, .int .i64 2]) (by simp [results, Tryz.results38, go_sem, r0, r1, r2, r3, r4]) rfl ⟨_, rfl, fun w'' _ => zero_is w'', ?_⟩
        have hbb := hB1.trans (hb6'.mono hB1.size)
        go_grown
      · have hlong' : l.any longT = false := by simpa using hlong
        rw [hlong'] at HKL
        by_cases hne : l = []
        · have hE : addE x l = 1 := by rw [addE, if_neg (by simp [h0]), if_neg (by simp [h24, hlong']), if_pos hne]
          rw [addN, addI, hE, if_neg (by decide), if_neg (by decide)]
          have hl0 : l.length = 0 := by rw [hne]; rfl
          clear hE h0 HZ hlong hlong' hne
          generalize addT x.l l = K at *
          generalize (x.l ++ l).length = NL at *
          generalize l.length = nl at *
          subst hl0
          generalize x.l.length = n1 at *
          generalize x.t = t at *
          generalize x.k = k at *
          generalize x.p.length = n2 at *
          generalize x.s.length = n3 at *
          go_enter Tryz.func38, Tryz.ntmps38
          go_wp2_with fail
          refine (HC.out _ (((Below.refl _ w).alloc (Nat.le_refl _) _).alloc (by simp) _)).mono ?_
          rintro e w1 ⟨rfl, hb1⟩
          obtain ⟨hc, hf⟩ := bcell hb1
          have hz : w.heap.size + 1 < w1.heap.size := by have := hb1.size; simp at this; omega
          have y0 : w.heap.size < w1.heap.size := by omega
          have hB1 : Below w.heap.size w w1 := (((Below.refl _ w).alloc (Nat.le_refl _) _).alloc (by simp) _).trans (hb1.mono (by simp; omega))
          go_wp2_with fail
          have HBX : Hid (∀ W, Below w1.heap.size w1 W → (W.cell? ⟨w.heap.size + 1, 0, none⟩ = some (.int .i64 0) ∧ W.cell? ⟨w.heap.size + 1, 1, none⟩ = some (.string ⟨#[]⟩) ∧ W.cell? ⟨w.heap.size + 1, 2, none⟩ = some (.slice none 0 0) ∧ W.cell? ⟨w.heap.size + 1, 3, none⟩ = some (.slice none 0 0) ∧ W.cell? ⟨w.heap.size + 1, 4, none⟩ = some (.slice none 0 0)) ∧ (∀ j, W.frozen? ⟨w.heap.size + 1, j, none⟩ = false) ∧ W.cell? ⟨w.heap.size, 2, none⟩ = some (.slice a1 n1 c1)) := fun W hW =>
            ⟨⟨(hW.cell (p := ⟨w.heap.size + 1, 0, none⟩) hz).trans ((hc _ _ (by simp)).trans (by simp [go_sem])), (hW.cell (p := ⟨w.heap.size + 1, 1, none⟩) hz).trans ((hc _ _ (by simp)).trans (by simp [go_sem])), (hW.cell (p := ⟨w.heap.size + 1, 2, none⟩) hz).trans ((hc _ _ (by simp)).trans (by simp [go_sem])), (hW.cell (p := ⟨w.heap.size + 1, 3, none⟩) hz).trans ((hc _ _ (by simp)).trans (by simp [go_sem])), (hW.cell (p := ⟨w.heap.size + 1, 4, none⟩) hz).trans ((hc _ _ (by simp)).trans (by simp [go_sem]))⟩, fun j => (hW.frozen (p := ⟨w.heap.size + 1, j, none⟩) hz).trans ((hf _ _ (by simp)).trans (by simp [go_sem])), (hW.cell (p := ⟨w.heap.size, 2, none⟩) y0).trans ((hc _ _ (by simp; omega)).trans (by simp [go_sem]))⟩
          generalize hW2 : World.alloc w1 _ = W2
          have B12 : Below w1.heap.size w1 W2 := by rw [← hW2]; exact (Below.refl _ _).alloc (Nat.le_refl _) _
          have q0 : W2.cell? ⟨w1.heap.size, 0, none⟩ = some (.slice a1 n1 c1) := by rw [← hW2]; simp [go_sem]
          have q1 : W2.cell? ⟨w1.heap.size, 1, none⟩ = some (.slice al 0 cl) := by rw [← hW2]; simp [go_sem]
          have zz2 : w1.heap.size < W2.heap.size := by rw [← hW2]; simp
          clear hW2
          refine (HCAT.out W2 w1.heap.size (hB1.trans (B12.mono hB1.size)) q0 q1).mono ?_
          rintro e w3 ⟨a', cap, rfl, hb3, hs3⟩
          have HS3 := hide hs3
          clear hs3 HCAT q0 q1
          go_wp2_with fail
          refine HS3.out.mono ?_
          rintro e w4 ⟨rfl, hb4, hs4⟩
          have HS4 := hide hs4
          clear hs4 HS3 hb3
          go_wp2_with fail
          refine HS4.out.mono ?_
          rintro e w5 ⟨rfl, hb5, hT5⟩
          have HT5 := hide hT5
          have hb5' : Below w1.heap.size w1 w5 := B12.trans (hb5.mono B12.size)
          have zz5 := hb5.size
          clear hT5 HS4 hb4
          go_wp2_with fail
          refine (HKL.out _ (hB1.trans (hb5'.mono hB1.size))).mono ?_
          rintro e w6 ⟨rfl, hb6⟩
          have hb6' : Below w1.heap.size w1 w6 := hb5'.trans (hb6.mono hb5'.size)
          have hzB := hB1.size
          obtain ⟨⟨r0, r1, r2, r3, r4⟩, fz, x2⟩ := HBX.out w6 hb6'
          have fz0 := fz 0
          have fz1 := fz 1
          have fz2 := fz 2
          have fz3 := fz 3
          have fz4 := fz 4
          go_wp2_with fail
          refine bodyPost_ret (v := .tuple #[.agg #[.int .i64 0, .string ⟨#[]⟩, .slice none 0 0, .slice none 0 0, .slice none 0 0], .int .i64 0, .int .i64 1]) (by simp [results, Tryz.results38, go_sem, r0, r1, r2, r3, r4]) rfl ⟨_, rfl, fun w'' _ => zero_is w'', ?_⟩
          have hbb := hB1.trans (hb6'.mono hB1.size)
          go_grown
        · have hE : addE x l = 0 := by rw [addE, if_neg (by simp [h0]), if_neg (by simp [h24, hlong']), if_neg hne]
          rw [addN, addI, hE, if_pos rfl, if_pos rfl]
          have hl0 : ¬ ((l.length : Nat) : Int) = 0 := fun e => hne (List.eq_nil_of_length_eq_zero (by omega))
          clear hE h0 hlong hlong' hne
          generalize addT x.l l = K at *
          generalize (x.l ++ l).length = NL at *
          generalize x.l.length = n1 at *
          generalize x.t = t at *
          generalize x.k = k at *
          generalize x.p.length = n2 at *
          generalize x.s.length = n3 at *
          go_enter Tryz.func38, Tryz.ntmps38
          go_wp2_with fail
          refine (HC.out _ (((Below.refl _ w).alloc (Nat.le_refl _) _).alloc (by simp) _)).mono ?_
          rintro e w1 ⟨rfl, hb1⟩
          obtain ⟨hc, hf⟩ := bcell hb1
          have hz : w.heap.size + 1 < w1.heap.size := by have := hb1.size; simp at this; omega
          have y0 : w.heap.size < w1.heap.size := by omega
          have hB1 : Below w.heap.size w w1 := (((Below.refl _ w).alloc (Nat.le_refl _) _).alloc (by simp) _).trans (hb1.mono (by simp; omega))
          go_wp2_with fail
          have HBX : Hid (∀ W, Below w1.heap.size w1 W → (W.cell? ⟨w.heap.size + 1, 0, none⟩ = some (.int .i64 0) ∧ W.cell? ⟨w.heap.size + 1, 1, none⟩ = some (.string ⟨#[]⟩) ∧ W.cell? ⟨w.heap.size + 1, 2, none⟩ = some (.slice none 0 0) ∧ W.cell? ⟨w.heap.size + 1, 3, none⟩ = some (.slice none 0 0) ∧ W.cell? ⟨w.heap.size + 1, 4, none⟩ = some (.slice none 0 0)) ∧ (∀ j, W.frozen? ⟨w.heap.size + 1, j, none⟩ = false) ∧ W.cell? ⟨w.heap.size, 2, none⟩ = some (.slice a1 n1 c1)) := fun W hW =>
            ⟨⟨(hW.cell (p := ⟨w.heap.size + 1, 0, none⟩) hz).trans ((hc _ _ (by simp)).trans (by simp [go_sem])), (hW.cell (p := ⟨w.heap.size + 1, 1, none⟩) hz).trans ((hc _ _ (by simp)).trans (by simp [go_sem])), (hW.cell (p := ⟨w.heap.size + 1, 2, none⟩) hz).trans ((hc _ _ (by simp)).trans (by simp [go_sem])), (hW.cell (p := ⟨w.heap.size + 1, 3, none⟩) hz).trans ((hc _ _ (by simp)).trans (by simp [go_sem])), (hW.cell (p := ⟨w.heap.size + 1, 4, none⟩) hz).trans ((hc _ _ (by simp)).trans (by simp [go_sem]))⟩, fun j => (hW.frozen (p := ⟨w.heap.size + 1, j, none⟩) hz).trans ((hf _ _ (by simp)).trans (by simp [go_sem])), (hW.cell (p := ⟨w.heap.size, 2, none⟩) y0).trans ((hc _ _ (by simp; omega)).trans (by simp [go_sem]))⟩
          generalize hW2 : World.alloc w1 _ = W2
          have B12 : Below w1.heap.size w1 W2 := by rw [← hW2]; exact (Below.refl _ _).alloc (Nat.le_refl _) _
          have q0 : W2.cell? ⟨w1.heap.size, 0, none⟩ = some (.slice a1 n1 c1) := by rw [← hW2]; simp [go_sem]
          have q1 : W2.cell? ⟨w1.heap.size, 1, none⟩ = some (.slice al l.length cl) := by rw [← hW2]; simp [go_sem]
          have zz2 : w1.heap.size < W2.heap.size := by rw [← hW2]; simp
          clear hW2
          refine (HCAT.out W2 w1.heap.size (hB1.trans (B12.mono hB1.size)) q0 q1).mono ?_
          rintro e w3 ⟨a', cap, rfl, hb3, hs3⟩
          have HS3 := hide hs3
          clear hs3 HCAT q0 q1
          go_wp2_with fail
          refine HS3.out.mono ?_
          rintro e w4 ⟨rfl, hb4, hs4⟩
          have HS4 := hide hs4
          clear hs4 HS3 hb3
          go_wp2_with fail
          refine HS4.out.mono ?_
          rintro e w5 ⟨rfl, hb5, hT5⟩
          have HT5 := hide hT5
          have hb5' : Below w1.heap.size w1 w5 := B12.trans (hb5.mono B12.size)
          have zz5 := hb5.size
          clear hT5 HS4 hb4
          go_wp2_with fail
          refine (HKL.out _ (hB1.trans (hb5'.mono hB1.size))).mono ?_
          rintro e w6 ⟨rfl, hb6⟩
          have hb6' : Below w1.heap.size w1 w6 := hb5'.trans (hb6.mono hb5'.size)
          have z6 := hb6.size
          obtain ⟨fk, fa, fn, fc, ho, hi⟩ := setOf_item (p := fun W' => ∀ g o u, W2.heap.size ≤ g → w6.cell? ⟨g, o, none⟩ = some u → w6.frozen? ⟨g, o, none⟩ = false → W'.cell? ⟨g, o, none⟩ = some u) (cp := cap) (fun W' hW' => HT5.out W' (fun g o u hg hu hf => hW' g o u hg ((hb6.cell (p := ⟨g, o, none⟩) (World.block_lt_of_cell? _ _ hu)).trans hu) ((hb6.frozen (p := ⟨g, o, none⟩) (World.block_lt_of_cell? _ _ hu)).trans hf))) HZ.out (by omega)
          have HO := hide ho
          have HI := hide hi
          clear ho hi HT5 HZ HC HKL
          go_wp2_with fail
          obtain ⟨-, -, x2⟩ := HBX.out w6 hb6'
          have hbd : Below w1.heap.size w1 w6.drew := hb6'.drew
          have nn1 : w6.heap.size ≠ w.heap.size + 1 := by omega
          have nn2 : w.heap.size + 1 ≠ w6.heap.size := by omega
          have nn3 : w.heap.size ≠ w.heap.size + 1 := by omega
          have nn4 : w.heap.size + 1 ≠ w.heap.size := by omega
          have nn5 : ¬ w.heap.size = w.heap.size + 1 := by omega
          have hwr := wrap_small (((K.length : Nat) : Int) - ((n1 : Nat) : Int)) (by omega) (by omega)
          have hzl := hb6'.size
          have hz1 := hB1.size
          clear hc hf hb1
          go_region_held3 (fun w' => w'.cell? ⟨w.heap.size, 2, none⟩ = some (.slice a1 n1 c1)) (go_keep)
            ((go_at_call 97; refine (HO.out _).mono ?_; rintro e w9 ⟨rfl, hb9⟩; have hb9' : Below w1.heap.size w1 w9 := hbd.trans (hb9.mono hzl); obtain ⟨⟨b0, b1, b2, b3, b4⟩, fz, x3⟩ := HBX.out w9 hb9'; have fz0 := fz 0; have fz1 := fz 1; have fz2 := fz 2; have fz3 := fz 3; have fz4 := fz 4))
          all_goals
            go_wp2_with fail
            refine bodyPost_ret (v := .tuple #[.agg #[.int .i64 fk, .string ⟨#[]⟩, .slice fa fn fc, .slice none 0 0, .slice none 0 0], .int .i64 (((K.length : Nat) : Int) - ((n1 : Nat) : Int)), .int .i64 0]) (by simp [results, Tryz.results38, go_sem, b0, b1, b2, b3, b4]) rfl ⟨_, rfl, ?_, ?_⟩
            · exact fun w'' hw => HI.out w'' (fun g' o' u' hg hu hf => hw g' o' u' (by omega) ((five_apart w9 (w.heap.size + 1) _ _ _ _ _ g' o' (by omega)).trans ((hb9.cell (p := ⟨g', o', none⟩) (World.block_lt_of_cell? w6 _ hu)).trans hu)) (by simp only [World.frozen?_setCell]; exact (hb9.frozen (p := ⟨g', o', none⟩) (World.block_lt_of_cell? w6 _ hu)).trans hf))
            · have hb9'' := hB1.trans (hb9'.mono hz1)
              go_grown
  · have hE : addE x l = asI x 3 := by rw [addE, if_pos h0]
    rw [addN, addI, hE, if_neg h0, if_neg h0]
    have h0' : (asI x 3 == 0) = false := by rw [beq_eq_false_iff_ne]; exact h0
    clear hx1 hl hE
    generalize asI x 3 = E at *
    generalize x.l.length = n1 at *
    generalize x.t = t at *
    generalize x.k = k at *
    generalize x.p.length = n2 at *
    generalize x.s.length = n3 at *
    go_enter Tryz.func38, Tryz.ntmps38
    go_wp2_with fail
    refine (HC.out _ (((Below.refl _ w).alloc (Nat.le_refl _) _).alloc (by simp) _)).mono ?_
    rintro e w1 ⟨rfl, hb1⟩
    obtain ⟨hc, hf⟩ := bcell hb1
    have hz : w.heap.size + 1 < w1.heap.size := by have := hb1.size; simp at this; omega
    have y0 : w.heap.size < w1.heap.size := by omega
    have hB1 : Below w.heap.size w w1 := (((Below.refl _ w).alloc (Nat.le_refl _) _).alloc (by simp) _).trans (hb1.mono (by simp; omega))
    go_wp2_with fail
    refine bodyPost_ret (v := .tuple #[.agg #[.int .i64 0, .string ⟨#[]⟩, .slice none 0 0, .slice none 0 0, .slice none 0 0], .int .i64 0, .int .i64 E]) (by simp [results, Tryz.results38, go_sem, hc]) rfl ⟨_, rfl, fun w'' _ => zero_is w'', ?_⟩
    go_grown
theorem setAdd_any (v : Value) (x : Itm) (al : Option Addr) (cl : Nat) (l : List ByteArray) (w : World) (h : ItemIs w v x) (hl : TextsAt w al l) (hlz : ∀ t ∈ l, t.size ≤ maxLen) (hll : l.length ≤ 1500000) :
    Calls Tryz.prog 38 #[v, .slice al l.length cl] w fun e w' => ∃ u, e = .returned (.tuple #[u, .int .i64 (addN x l), .int .i64 (addE x l)]) ∧ ItemFrom w.heap.size w' u (addI x l) ∧ Below w.heap.size w w' :=
  (setAdd_own v x al cl l w h hl hlz hll).mono fun _ _ ⟨u, he, hi, hb⟩ => ⟨u, he, hi.from, hb⟩
end Go.Proofs.YtcidoodaiimhfaaGreat

