/- WALK of scores: where one stands; what an item of scores has. -/
import Derived.Test.YtnobcdhlagfhmaaGreatZTog
import Derived.Test.YtnobcdhlagfhmaaGreatCom
import Derived.Test.YtnobcdhlagfhmaaGreatBoxes
import Derived.Test.YtnobcdhlagfhmaaGreatISame
import Derived.Test.YtnobcdhlagfhmaaGreatIEnc2
import Derived.Shelf.SlicesQ.IndexFunc
import Derived.Handy
namespace Go.Proofs.YtnobcdhlagfhmaaGreat.Z
open Go.RowKit Go.Maps Go.Shelf

/-- where the first one stands that is asked for; -1, if there is none -/
def idxF (p : Sc → Bool) : List Sc → Int
  | [] => -1
  | x :: r => if p x = true then 0 else if idxF p r < 0 then -1 else idxF p r + 1
theorem idxF_lo (p : Sc → Bool) (l : List Sc) : -1 ≤ idxF p l := by
  induction l with
  | nil => simp [idxF]
  | cons x r ih => rw [idxF]; split <;> try split
                   all_goals omega
theorem idxF_hi (p : Sc → Bool) (l : List Sc) : idxF p l < l.length := by
  induction l with
  | nil => simp [idxF]
  | cons x r ih => rw [idxF, List.length_cons]; split <;> try split
                   all_goals omega
theorem idxF_none {p : Sc → Bool} {l : List Sc} (h : idxF p l < 0) : ∀ x ∈ l, p x = false := by
  induction l with
  | nil => intro x hx; cases hx
  | cons a r ih =>
    rw [idxF] at h
    split at h
    · omega
    · rename_i ha
      split at h
      · rename_i hr
        intro x hx
        rcases List.mem_cons.1 hx with e | hx
        · rw [e]; simpa using ha
        · exact ih hr x hx
      · omega
theorem idxF_at {p : Sc → Bool} {l : List Sc} {i : Nat} (h : idxF p l = i) : ∃ hi : i < l.length, p l[i] = true ∧ ∀ j (hj : j < i), p (l[j]'(by omega)) = false := by
  induction l generalizing i with
  | nil => simp [idxF] at h
  | cons a r ih =>
    rw [idxF] at h
    split at h
    · rename_i ha
      obtain rfl : i = 0 := by omega
      exact ⟨by simp, ha, fun j hj => absurd hj (by omega)⟩
    · rename_i ha
      split at h
      · omega
      · obtain ⟨k, hk⟩ : ∃ k : Nat, idxF p r = k := ⟨(idxF p r).toNat, by omega⟩
        obtain rfl : i = k + 1 := by omega
        obtain ⟨h1, h2, h3⟩ := ih hk
        refine ⟨by simp; omega, by simpa using h2, fun j hj => ?_⟩
        cases j with
        | zero => simpa using ha
        | succ j => simpa using h3 j (by omega)
theorem idxByFrom_idxF (p : Sc → Bool) (d : Sc) (l : List Sc) : ∀ i : Nat, Lib.idxByFrom (fun _ y => p y) d l i = if idxF p l < 0 then -1 else idxF p l + i := by
  induction l with
  | nil => intro i; simp [Lib.idxByFrom, idxF]
  | cons x r ih =>
    intro i
    rw [Lib.idxByFrom, idxF]
    by_cases hx : p x = true
    · rw [if_pos hx, if_pos hx]
      simp
    · rw [if_neg hx, if_neg hx, ih (i + 1)]
      have := idxF_lo p r
      by_cases h0 : idxF p r < 0
      · rw [if_pos h0, if_pos h0]; simp
      · rw [if_neg h0, if_neg h0, if_neg (by omega)]
        omega
theorem idxBy_idxF (p : Sc → Bool) (l : List Sc) (d : Sc) : Lib.idxBy (fun _ y => p y) l d = idxF p l := by
  rw [Lib.idxBy, idxByFrom_idxF]
  have := idxF_lo p l
  split <;> omega
set_option maxRecDepth 100000 in
theorem idxP_none (a : Option Addr) (cap : Nat) (fv : Value) (w : World) : Calls Tryz.prog 27 #[.slice a 0 cap, fv] w fun e w' => e = .returned (.int .i64 (-1)) ∧ w' = w := by
  go_enter Tryz.func27, Tryz.ntmps27
  go_wp2_with fail
  refine wp_loop_rounds 1 ?_
  rw [rounds_succ]
  go_wp2_with fail
  go_ret
  exact ⟨rfl, rfl⟩
theorem idxP_any (gf : Nat) (lb : Array Value) (eg : ∀ args w, (callFunc gf args).run Tryz.prog w = .ok (.enter gf args) w) (p : Sc → Bool) (a : Option Addr) (cap : Nat) (ts : List Sc) (w : World) (hs : ScoresAt w a ts) (hn : ts.length ≤ 2000000)
    (hp : ∀ W x, Below w.heap.size w W → Calls Tryz.prog gf (#[encPr x] ++ lb) W fun e w' => e = .returned (.bool (p x)) ∧ Below w.heap.size w w') :
    Calls Tryz.prog 27 #[.slice a ts.length cap, .func (.func gf) #[] lb] w fun e w' => e = .returned (.int .i64 (idxF p ts)) ∧ Below w.heap.size w w' := by
  rcases hs with rfl | ⟨g, o, rfl, hc⟩
  · exact (idxP_none a cap _ w).mono fun e w' ⟨h1, h2⟩ => ⟨h1, h2 ▸ Below.refl _ _⟩
  · by_cases h0 : ts = []
    · subst h0
      exact (idxP_none _ cap _ w).mono fun e w' ⟨h1, h2⟩ => ⟨h1, h2 ▸ Below.refl _ _⟩
    · have hpos : 0 < ts.length := List.length_pos_iff.2 h0
      have hb : g < w.heap.size := World.block_lt_of_cell? _ _ (hc 0 hpos).1
      have hh := AnyQ.slices_IndexFunc Tryz.layIdxScore 2 isAggP sizeOfP encL (fun _ => rfl) p gf lb eg g o ts.length cap ts w hp (Nat.le_refl _) (by omega) hb (fun j hj i v hv => by
        obtain ⟨d0, d1⟩ := hc j hj
        have e : ts[j]! = ts[j] := by simp [hj]
        rw [e] at hv
        match i, hv with
        | 0, hv => simp [encL] at hv; subst hv; exact d0
        | 1, hv => simp [encL] at hv; subst hv; exact d1)
      rw [List.take_length, idxBy_idxF] at hh
      exact hh
theorem beq_fd (a b : ByteArray) : (a.toList == b.toList) = decide (a = b) := by
  rw [Bool.eq_iff_iff]
  simp only [beq_iff_eq, decide_eq_true_eq]
  exact ⟨bytes_inj, fun e => by rw [e]⟩
/-- is it of this member? -/
def memIs (f : ByteArray) (p : Sc) : Bool := decide (p.2 = f)
set_option maxRecDepth 100000 in
theorem rankFn_any (b : Nat) (f : ByteArray) (x : Sc) (W : World) (hc : W.cell? ⟨b, 0, none⟩ = some (.string f)) : Calls Tryz.prog 28 #[.agg #[.int .i64 x.1, .string x.2], .pointer (some ⟨b, 0, none⟩)] W fun e w' => e = .returned (.bool (memIs f x)) ∧ Below W.heap.size W w' := by
  have hbl := World.block_lt_of_cell? _ _ hc
  have hc2 : (W.alloc (.cells #[.int .i64 x.1, .string x.2] 36)).cell? ⟨b, 0, none⟩ = some (.string f) := (((Below.refl _ W).alloc (Nat.le_refl _) _).cell (p := ⟨b, 0, none⟩) hbl).trans hc
  have hbq := beq_fd x.2 f
  unfold memIs
  go_enter Tryz.func28, Tryz.ntmps28
  go_wp2_with fail
  go_ret
  exact ⟨by rw [← hbq]; rfl, (Below.refl _ W).alloc (Nat.le_refl _) _⟩
theorem risesS_of_riseTo {l : List Sc} (h : riseTo cmpS l l.length = true) : RisesS l := by
  have hadj : ∀ j, j + 1 < l.length → lessS l[j]! l[j + 1]! := fun j hj => by
    rw [riseTo, List.all_eq_true] at h
    have := h j (List.mem_range.2 (by omega))
    simp only [decide_eq_true_eq] at this
    exact (cmpS_lt _ _).1 this
  have hfar : ∀ d i, i + d + 1 < l.length → lessS l[i]! l[i + d + 1]! := fun d => by
    induction d with
    | zero => exact fun i hi => hadj i hi
    | succ d ih => exact fun i hi => lessS_trans (ih i (by omega)) (hadj (i + d + 1) (by omega))
  rw [RisesS, List.pairwise_iff_getElem]
  intro i j hi hj hij
  have := hfar (j - i - 1) i (by omega)
  rw [show i + (j - i - 1) + 1 = j by omega] at this
  simpa [hi, hj] using this
theorem once_of_nodup {l : List Sc} (h : (l.map Prod.snd).Nodup) : OnceS l := by
  induction l with
  | nil => intro p hp; cases hp
  | cons a r ih =>
    rw [List.map_cons, List.nodup_cons] at h
    intro p hp q hq e
    rcases List.mem_cons.1 hp with h1 | h1
    · rcases List.mem_cons.1 hq with h2 | h2
      · rw [h1, h2]
      · exact absurd (List.mem_map.2 ⟨q, h2, by rw [← e, h1]⟩) h.1
    · rcases List.mem_cons.1 hq with h2 | h2
      · exact absurd (List.mem_map.2 ⟨p, h1, by rw [e, h2]⟩) h.1
      · exact ih h.2 p h1 q h2 e
/-- what an item of scores has -/
structure AsScore (x : Itm) : Prop where
  r : RisesS x.s
  o : OnceS x.s
  n : x.s.length ≤ 24
  z : ∀ p ∈ x.s, p.2.size ≤ 60
  b : ∀ p ∈ x.s, -999999999 ≤ p.1 ∧ p.1 ≤ 999999999
theorem asI_score {x : Itm} (h : asI x 5 = 0) : AsScore x := by
  unfold asI at h
  split at h
  · rename_i hn
    unfold Itm.isNone at hn
    rw [decide_eq_true_eq] at hn
    have e : x.s = [] := hn.2.2.2.2
    exact ⟨by rw [e]; exact List.Pairwise.nil, fun p hp => (by rw [e] at hp; cases hp), by rw [e]; simp, by rw [e]; simp, by rw [e]; simp⟩
  · split at h
    · rename_i h1; exact absurd h h1
    · rename_i h1
      have h1 : chkI x = 0 := by simpa using h1
      split at h
      · cases h
      · rename_i hk
        have hk : x.k = 5 := by simpa using hk
        have R := right_of h1
        unfold chkI at h1
        rw [if_neg (by omega)] at h1
        split at h1
        · cases h1
        · rw [if_neg (by omega), if_neg (by omega), if_neg (by omega)] at h1
          try rw [if_pos hk] at h1
          unfold scoreT at h1
          split at h1
          · rename_i h2; exact absurd h1 h2
          · split at h1
            · cases h1
            · split at h1
              · cases h1
              · rename_i h4
                split at h1
                · rename_i h3
                  refine ⟨risesS_of_riseTo h3, once_of_nodup ?_, R.sn, R.sz, R.sr⟩
                  unfold twiceS at h4
                  simpa using h4
                · cases h1
end Go.Proofs.YtnobcdhlagfhmaaGreat.Z
