/- Scores as plain data: what is so behind a put. -/
import Derived.Test.YtnobcdhlagfhmaaGreatZBeg
import Derived.Handy
namespace Go.Proofs.YtnobcdhlagfhmaaGreat.Z
open Go.RowKit

theorem riseToS_of {l : List Sc} (h : RisesS l) : riseTo cmpS l l.length = true := by
  rw [riseTo, List.all_eq_true]
  intro j hj
  rw [List.mem_range] at hj
  rw [RisesS, List.pairwise_iff_getElem] at h
  have h1 := h j (j + 1) (by omega) (by omega) (by omega)
  have e1 : l[j]! = l[j]'(by omega) := by simp [show j < l.length by omega]
  have e2 : l[j + 1]! = l[j + 1]'(by omega) := by simp [show j + 1 < l.length by omega]
  rw [e1, e2, decide_eq_true_eq]
  exact (cmpS_lt _ _).2 h1
theorem nodup_of_once {l : List Sc} (h : OnceS l) (hr : RisesS l) : (l.map Prod.snd).Nodup := by
  rw [List.Nodup, List.pairwise_map]
  refine List.Pairwise.imp_of_mem ?_ hr
  intro a b ha hb hab e
  exact lessS_irrefl b (by have := h a ha b hb e; rw [this] at hab; exact hab)
theorem score_as {l : List Sc} (hr : RisesS l) (ho : OnceS l) (hne : l ≠ []) (h24 : l.length ≤ 24) (hz : ∀ t ∈ l, checkS t = 0) : asI ⟨5, ⟨#[]⟩, [], [], l⟩ 5 = 0 := by
  have h1 : chkI ⟨5, ⟨#[]⟩, [], [], l⟩ = 0 := by
    unfold chkI
    have hoth : otherI ⟨5, ⟨#[]⟩, [], [], l⟩ = false := by simp [otherI]
    have hs : sizeT l.length (l.any longS) = 0 := by
      have h2 : l.any longS = false := by
        rw [List.any_eq_false]
        intro t ht
        have := (checkS_ok (hz t ht)).2.2
        simp [longS, longT]
        omega
      have h3 : l.length ≠ 0 := fun e => hne (List.eq_nil_of_length_eq_zero e)
      unfold sizeT
      rw [if_neg h3, if_neg (by simp [h2]; omega)]
    have hout : ¬ l.any outS = true := by
      rw [Bool.not_eq_true, List.any_eq_false]
      intro t ht
      obtain ⟨b1, b2, -⟩ := checkS_ok (hz t ht)
      simp [outS]
      omega
    have htw : ¬ twiceS l = true := by
      unfold twiceS
      simp only [Bool.not_eq_true', decide_eq_false_iff_not, Decidable.not_not]
      exact nodup_of_once ho hr
    rw [if_neg (by simp), hoth, if_neg (by decide), if_neg (by simp), if_neg (by simp), if_neg (by simp), if_pos rfl]
    unfold scoreT
    rw [if_neg (by simp [hs]), if_neg hout, if_neg htw, if_pos (riseToS_of hr)]
  unfold asI
  split
  · rfl
  · rw [if_neg (by simp [h1]), if_neg (by simp)]
/-- what has been put is right -/
structure PutOk (x : Itm) (l : List Sc) (K : List Sc) : Prop where
  i : putI x l = ⟨5, ⟨#[]⟩, [], [], K⟩
  a : asI (putI x l) 5 = 0
  r : RisesS K
  o : OnceS K
  n : K.length ≤ 24
  p : putN x l = ((K.length : Nat) : Int) - ((x.s.length : Nat) : Int)
  q : x.s.length ≤ 24
  m : ∀ q, q ∈ K ↔ lastS (x.s ++ l) q.2 = some q
theorem put_ok {x : Itm} {l : List Sc} (h : putE x l = 0) : PutOk x l (togS x.s l) := by
  have h0 : asI x 5 = 0 := by
    by_cases h0 : asI x 5 = 0
    · exact h0
    · rw [putE, if_pos h0] at h; exact h
  have AS := asI_score h0
  have hh := h
  rw [putE, if_neg (by simp [h0])] at hh
  have hw : wrongS l = 0 := by
    by_cases hw : wrongS l = 0
    · exact hw
    · rw [if_pos hw] at hh; exact hh
  rw [if_neg (by simp [hw])] at hh
  have h24 : ¬ 24 < (togS x.s l).length := fun h2 => by rw [if_pos h2] at hh; cases hh
  rw [if_neg h24] at hh
  have hne : l ≠ [] := fun h2 => by rw [if_pos h2] at hh; cases hh
  have hm := mem_togS AS.o l
  have hK : togS x.s l ≠ [] := fun e => by
    cases l with
    | nil => exact hne rfl
    | cons p r =>
      obtain ⟨q, hq⟩ := lastS_some (ms := x.s ++ p :: r) (p := p) (by simp)
      have := (hm q).2 (by rw [lastS_member hq]; exact hq)
      rw [e] at this
      cases this
  have hi : putI x l = ⟨5, ⟨#[]⟩, [], [], togS x.s l⟩ := by rw [putI, if_pos h, kindS, if_neg hK]
  have hz : ∀ t ∈ togS x.s l, checkS t = 0 := fun t ht => by
    have h1 := lastS_mem ((hm t).1 ht)
    rcases List.mem_append.1 h1 with h1 | h1
    · obtain ⟨b1, b2⟩ := AS.b t h1
      have b3 := AS.z t h1
      unfold checkS
      rw [if_neg (by simp; exact ⟨b1, b2⟩), if_neg (by simp [longT]; omega)]
    · exact wrongS_zero hw t h1
  exact ⟨hi, by rw [hi]; exact score_as (rises_togS AS.r l) (once_togS AS.o l) hK (by omega) hz, rises_togS AS.r l, once_togS AS.o l, by omega, by rw [putN, if_pos h], AS.n, hm⟩
theorem rank_at {y : Itm} {K : List Sc} (h0 : asI y 5 = 0) (hy : y.s = K) (ho : OnceS K) {p : Sc} (hp : p ∈ K) : rankE y p.2 = 0 ∧ numN y p.2 = p.1 ∧ ∀ i, (hi : i < K.length) → K[i] = p → rankN y p.2 = i := by
  have hneg : ¬ idxF (memIs p.2) y.s < 0 := fun hn => by
    have := idxF_none hn p (by rw [hy]; exact hp)
    simp [memIs] at this
  have hE : rankE y p.2 = 0 := by rw [rankE, if_neg (by simp [h0]), if_neg hneg]
  obtain ⟨j, hj, -, hm, h1, h2⟩ := rank_found hE
  have hjK : y.s[j] ∈ K := by rw [← hy]; exact List.getElem_mem _
  have e : y.s[j] = p := ho _ hjK p hp hm
  refine ⟨hE, by rw [h2, e], fun i hi ei => ?_⟩
  rw [h1]
  have hn : (K.map Prod.snd).Nodup → j = i := fun hn => by
    have e2 : (K.map Prod.snd)[j]? = (K.map Prod.snd)[i]? := by
      have hj' : j < K.length := by rw [← hy]; exact hj
      have e3 : K[j] = p := by rw [← e]; congr 1; exact hy.symm
      simp [hj', hi, e3, ei]
    exact (List.getElem?_inj (by rw [List.length_map, ← hy]; exact hj) hn).1 e2
  have := hn (by
    have AS := (asI_score h0).r
    rw [hy] at AS
    exact nodup_of_once ho AS)
  omega
theorem fromB_neg {n : Nat} {f : Int} (h : f < 0) : fromB n f = n + f := by rw [fromB, if_pos h]
theorem fromB_pos {n : Nat} {f : Int} (h : 0 ≤ f) : fromB n f = f := by rw [fromB, if_neg (by omega)]
theorem place_all (n : Nat) : place1 n 0 (-1) = 0 ∧ place2 n 0 (-1) = n := by
  unfold place1 place2
  rw [fromB_pos (f := 0) (by omega), fromB_neg (f := -1) (by omega)]
  constructor <;> split <;> omega
/-- all of them, in order -/
theorem ask_all {y : Itm} {K : List Sc} (h0 : asI y 5 = 0) (hy : y.s = K) : askS (byPlace y.s.length 0 (-1)) y = K.map Prod.snd := by
  obtain ⟨hp1, hp2⟩ := place_all y.s.length
  rw [askS, if_pos h0, hy]
  rw [hy] at hp1 hp2
  have hall : ∀ k, k ≤ K.length → askTo (byPlace K.length 0 (-1)) K k = (K.take k).map Prod.snd := fun k => by
    induction k with
    | zero => intro _; simp [askTo]
    | succ k ih =>
      intro hk
      rw [askTo_yes (by omega) (by unfold byPlace; rw [hp1, hp2]; simp; omega), ih (by omega), List.take_succ_eq_append_getElem (by omega), List.map_append, List.map_singleton]
  rw [hall _ (Nat.le_refl _), List.take_length]
/-- those within stand in the whole as in its beginning -/
theorem askTo_prefix (p : Nat → Int → Bool) (K : List Sc) : ∀ d k, k + d ≤ K.length → ∃ r, askTo p K (k + d) = askTo p K k ++ r := fun d => by
  induction d with
  | zero => exact fun k _ => ⟨[], by simp⟩
  | succ d ih =>
    intro k hk
    obtain ⟨r, hr⟩ := ih k (by omega)
    rw [show k + (d + 1) = k + d + 1 by omega]
    cases hp : p (k + d) K[k + d].1 with
    | true => exact ⟨r ++ [K[k + d].2], by rw [askTo_yes (by omega) hp, hr, List.append_assoc]⟩
    | false => exact ⟨r, by rw [askTo_no (by omega) hp, hr]⟩
theorem askTo_here {p : Nat → Int → Bool} {K : List Sc} {k : Nat} (hk : k < K.length) (hp : p k K[k].1 = true) : (askTo p K K.length)[(askTo p K k).length]? = some K[k].2 := by
  obtain ⟨r, hr⟩ := askTo_prefix p K (K.length - (k + 1)) (k + 1) (by omega)
  rw [show k + 1 + (K.length - (k + 1)) = K.length by omega] at hr
  rw [hr, askTo_yes hk hp, List.append_assoc, List.getElem?_append_right (Nat.le_refl _)]
  simp
/-- the number ahead -/
def wasS (K : List Sc) (i : Nat) : Int := if i = 0 then 0 else (K[i - 1]!).1
theorem lastS_append (m l : List Sc) (f : ByteArray) : lastS (m ++ l) f = match lastS l f with | some p => some p | none => lastS m f := by
  unfold lastS
  rw [List.reverse_append, List.find?_append]
  cases List.find? (fun p => decide (p.2 = f)) l.reverse <;> rfl
/-- what was put last of a member is there -/
theorem put_last {x : Itm} {l K : List Sc} (h : PutOk x l K) {f : ByteArray} {p : Sc} (hp : lastS l f = some p) : p ∈ K ∧ p.2 = f := by
  have e := lastS_member hp
  refine ⟨(h.m p).2 ?_, e⟩
  rw [lastS_append, e, hp]
end Go.Proofs.YtnobcdhlagfhmaaGreat.Z
