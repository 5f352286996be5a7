/- PLAIN facts: replies there and back. -/
import Derived.Test.YtolpmaapdkhigaaDoorBack1
namespace Go.Proofs.YtolpmaapdkhigaaDoor
open Go.RowKit

theorem toList_nil {t : ByteArray} (h : t.toList = []) : t.data.toList = [] := by
  rw [ByteArray.toList_eq] at h
  exact h
theorem check1_parts {k : Int} {t : ByteArray} {n : Int} {len : Nat} (h : pCheck1 k t n len = 0) : 1 ≤ k ∧ k ≤ 5 ∧ len = 0 ∧ (k = 1 ∨ k = 4 ∨ t.data.toList = []) ∧ (k = 2 ∨ k = 3 ∨ n = 0) ∧
    (k = 1 → t.size ≤ 20 ∧ ∀ c ∈ t.data.toList, c ≠ 13) ∧ (k = 2 → 1 ≤ n ∧ n ≤ 8) ∧ (k = 3 → -999999999 ≤ n ∧ n ≤ 999999999) ∧ (k = 4 → t.size ≤ 60) := by
  unfold pCheck1 at h
  split at h
  · simp at h
  · rename_i h1
    split at h
    · simp at h
    · rename_i h2
      have ho : ¬ ((¬ (k = 1 ∨ k = 4) ∧ ¬ t.toList = []) ∨ (¬ (k = 2 ∨ k = 3) ∧ ¬ n = 0) ∨ 0 < len) := by
        intro hx
        exact h2 (by simp only [pOther]; exact decide_eq_true hx)
      refine ⟨by omega, by omega, by omega, ?_, ?_, ?_, ?_, ?_, ?_⟩
      · by_cases hk : k = 1 ∨ k = 4
        · omega
        · right; right
          by_cases ht : t.toList = []
          · exact toList_nil ht
          · exact absurd (.inl ⟨hk, ht⟩) ho
      · by_cases hk : k = 2 ∨ k = 3
        · omega
        · by_cases hn : n = 0
          · omega
          · exact absurd (.inr (.inl ⟨hk, hn⟩)) ho
      · intro hk
        rw [if_pos hk] at h
        unfold pWordOk at h
        split at h
        · simp at h
        · split at h
          · simp at h
          · split at h
            · rename_i h3 h4 h5
              refine ⟨by omega, fun c hc he => ?_⟩
              have := (List.all_eq_true.1 h5) c hc
              subst he
              simp [isWordC] at this
            · simp at h
      · intro hk
        rw [if_neg (by omega), if_pos hk] at h
        split at h
        · simp at h
        · omega
      · intro hk
        rw [if_neg (by omega), if_neg (by omega), if_pos hk] at h
        split at h
        · simp at h
        · omega
      · intro hk
        rw [if_neg (by omega), if_neg (by omega), if_neg (by omega)] at h
        split at h
        · simp at h
        · omega

def Rep.one (r : Rep) : One := ⟨r.k, r.t.data.toList, r.n⟩
theorem single_mk {k : Int} {t : ByteArray} {n : Int} {len : Nat} (h : pCheck1 k t n len = 0) (q : List UInt8) :
    ∃ c l, pEnc1 k t.data.toList n ++ q = c :: l ∧ c ≠ 42 ∧ pSingle c l = .ok (⟨k, t.data.toList, n⟩, q) := by
  obtain ⟨h1, h5, _, ht, hn, g1, g2, g3, g4⟩ := check1_parts h
  have hk : k = 1 ∨ k = 2 ∨ k = 3 ∨ k = 4 ∨ k = 5 := by omega
  rcases hk with rfl | rfl | rfl | rfl | rfl
  · have h0 : n = 0 := by omega
    subst h0
    refine ⟨43, t.data.toList ++ 13 :: 10 :: q, by simp [pEnc1], by decide, ?_⟩
    rw [pSingle, if_pos rfl, pLine_mk _ _ (g1 rfl).2]
  · have h0 : t.data.toList = [] := by rcases ht with h | h | h; omega; omega; exact h
    have := g2 rfl
    refine ⟨45, Lib.itoa n ++ 13 :: 10 :: q, by simp [pEnc1], by decide, ?_⟩
    rw [pSingle, if_neg (by decide), if_pos rfl, pNumber_mk n q (by omega) (by omega), h0]
  · have h0 : t.data.toList = [] := by rcases ht with h | h | h; omega; omega; exact h
    have := g3 rfl
    refine ⟨58, Lib.itoa n ++ 13 :: 10 :: q, by simp [pEnc1], by decide, ?_⟩
    rw [pSingle, if_neg (by decide), if_neg (by decide), if_pos rfl, pNumber_mk n q (by omega) (by omega), h0]
  · have h0 : n = 0 := by omega
    subst h0
    have hs := g4 rfl
    have hl : t.data.toList.length ≤ 60 := by rw [size_list]; exact hs
    refine ⟨36, Lib.itoa t.data.toList.length ++ 13 :: 10 :: (t.data.toList ++ 13 :: 10 :: q), by simp [pEnc1], by decide, ?_⟩
    rw [pSingle, if_neg (by decide), if_neg (by decide), if_neg (by decide), if_pos rfl, pBytes, pNumber_mk _ _ (by omega) (by omega)]
    simp only [Int.toNat_natCast]
    rw [if_neg (by omega), if_neg (by omega), if_neg (by simp), List.drop_left, List.take_left]
    simp [pMust]
  · have h0 : t.data.toList = [] := by rcases ht with h | h | h; omega; omega; exact h
    have h2 : n = 0 := by omega
    subst h2
    refine ⟨36, 45 :: 49 :: 13 :: 10 :: q, by simp [pEnc1], by decide, ?_⟩
    have e : (45 :: 49 :: 13 :: 10 :: q : List UInt8) = Lib.itoa (-1) ++ 13 :: 10 :: q := by
      have : Lib.itoa (-1) = [45, 49] := by
        rw [show (-1 : Int) = -((1 : Nat) : Int) by rfl, Lib.itoa_neg 1 (by omega), Lib.decDigits_one (by omega)]
        rfl
      rw [this]
      rfl
    rw [pSingle, if_neg (by decide), if_neg (by decide), if_neg (by decide), if_pos rfl, pBytes, e, pNumber_mk _ _ (by omega) (by omega), h0]
    simp
theorem must_inv {l q : List UInt8} (h : pMust [13, 10] l = .ok q) : l = 13 :: 10 :: q := by
  match l, h with
  | [], h => simp [pMust] at h
  | [a], h =>
    simp only [pMust] at h
    split at h <;> simp at h
  | a :: b :: r, h =>
    simp only [pMust] at h
    split at h
    · split at h
      · simp at h; subst_vars; rfl
      · simp at h
    · simp at h
theorem itoa_m1 : Lib.itoa (-1) = [45, 49] := by
  rw [show (-1 : Int) = -((1 : Nat) : Int) by rfl, Lib.itoa_neg 1 (by omega), Lib.decDigits_one (by omega)]
  rfl
theorem single_inv {c : UInt8} {l q : List UInt8} {r : One} (h : pSingle c l = .ok (r, q)) : c :: l = pEnc1 r.k r.t r.n ++ q := by
  unfold pSingle at h
  split at h
  · rename_i hc
    subst hc
    split at h
    · simp at h
    · rename_i x q' he
      simp at h
      obtain ⟨rfl, rfl⟩ := h
      rw [pLine_inv _ _ _ he]
      simp [pEnc1]
  · split at h
    · rename_i hc
      subst hc
      split at h
      · simp at h
      · rename_i x q' he
        simp at h
        obtain ⟨rfl, rfl⟩ := h
        rw [pNumber_inv he]
        simp [pEnc1]
    · split at h
      · rename_i hc
        subst hc
        split at h
        · simp at h
        · rename_i x q' he
          simp at h
          obtain ⟨rfl, rfl⟩ := h
          rw [pNumber_inv he]
          simp [pEnc1]
      · split at h
        · rename_i hc
          subst hc
          unfold pBytes at h
          split at h
          · simp at h
          · rename_i n q' he
            have hl := pNumber_inv he
            split at h
            · rename_i h1
              subst h1
              simp at h
              obtain ⟨rfl, rfl⟩ := h
              rw [hl, itoa_m1]
              simp [pEnc1]
            · split at h
              · simp at h
              · rename_i h1 h2
                split at h
                · simp at h
                · rename_i h3
                  split at h
                  · simp at h
                  · rename_i q2 hm
                    simp at h
                    obtain ⟨rfl, rfl⟩ := h
                    obtain ⟨m, rfl⟩ := Int.eq_ofNat_of_zero_le (show 0 ≤ n by omega)
                    rw [Int.toNat_natCast] at h3 hm ⊢
                    have e : (q'.take m).length = m := by rw [List.length_take]; omega
                    have e2 := must_inv hm
                    have e3 : q' = q'.take m ++ 13 :: 10 :: q2 := by rw [← e2, List.take_append_drop]
                    rw [hl]
                    simp only [pEnc1]
                    rw [e]
                    simp
                    exact e3
        · simp at h

theorem many_mk : ∀ (rs : List Rep) (q : List UInt8), (∀ r ∈ rs, pCheck1 r.k r.t r.n r.len = 0) → pMany rs.length (pBody rs ++ q) = .ok (rs.map Rep.one, q)
  | [], q, _ => by simp [pMany, pBody]
  | r :: rs, q, h => by
    have ih := many_mk rs q (fun x hx => h x (by simp [hx]))
    obtain ⟨c, l, e1, _, e2⟩ := single_mk (h r (by simp)) (pBody rs ++ q)
    have e : pBody (r :: rs) ++ q = c :: l := by
      rw [← e1]
      simp [pBody, Rep.enc]
    rw [List.length_cons, e, pMany, e2]
    simp only
    rw [ih]
    rfl
theorem many_inv : ∀ (n : Nat) (l : List UInt8) (rs : List One) (q : List UInt8), pMany n l = .ok (rs, q) → l = pBody (rs.map One.rep) ++ q
  | 0, l, rs, q, h => by simp [pMany] at h; obtain ⟨rfl, rfl⟩ := h; simp [pBody]
  | n + 1, [], rs, q, h => by simp [pMany] at h
  | n + 1, c :: l, rs, q, h => by
    rw [pMany] at h
    split at h
    · simp at h
    · rename_i r q1 he
      split at h
      · simp at h
      · rename_i rs' q2 he2
        simp at h
        obtain ⟨rfl, rfl⟩ := h
        rw [single_inv he, many_inv n q1 rs' _ he2]
        simp [pBody, Rep.enc, One.rep]

/-- what stands ahead, and what is left -/
def pTop : List UInt8 → Except Nat (Got × List UInt8)
  | [] => .error 8
  | c :: l => if c = 42 then (match pList l with | .error e => .error e | .ok (rs, q) => .ok (.many rs, q)) else (match pSingle c l with | .error e => .error e | .ok (r, q) => .ok (.one r, q))
theorem pAll_top {l q : List UInt8} {g : Got} (h : pTop l = .ok (g, q)) : pAll l = atEnd g q := by
  cases l with
  | nil => simp [pTop] at h
  | cons c l =>
    rw [pTop] at h
    rw [pAll]
    split at h
    · rename_i hc
      rw [if_pos hc]
      split at h
      · simp at h
      · rename_i he
        rw [he]
        simp at h
        obtain ⟨rfl, rfl⟩ := h
        rfl
    · rename_i hc
      rw [if_neg hc]
      split at h
      · simp at h
      · rename_i he
        rw [he]
        simp at h
        obtain ⟨rfl, rfl⟩ := h
        rfl
def pEnc (k : Int) (t : ByteArray) (n : Int) (rs : List Rep) : List UInt8 := if k = 6 then pEncList rs else pEnc1 k t.data.toList n
def pGot (k : Int) (t : ByteArray) (n : Int) (rs : List Rep) : Got := if k = 6 then .many (rs.map Rep.one) else .one ⟨k, t.data.toList, n⟩
theorem first_all : ∀ (rs : List Rep), pFirst rs = 0 → ∀ r ∈ rs, pCheck1 r.k r.t r.n r.len = 0
  | [], _, r, hr => by simp at hr
  | x :: rs, h, r, hr => by
    rw [pFirst] at h
    split at h
    · rename_i hx
      rcases List.mem_cons.1 hr with rfl | hr
      · exact hx
      · exact first_all rs h r hr
    · rename_i hx
      exact absurd h hx
theorem all_first : ∀ (rs : List Rep), (∀ r ∈ rs, pCheck1 r.k r.t r.n r.len = 0) → pFirst rs = 0
  | [], _ => rfl
  | x :: rs, h => by
    rw [pFirst_ok (h x (by simp))]
    exact all_first rs (fun r hr => h r (by simp [hr]))
theorem check_list {t : ByteArray} {n : Int} {rs : List Rep} (h : pCheck 6 t n rs = 0) : t.toList = [] ∧ n = 0 ∧ rs.length ≤ 300 ∧ pFirst rs = 0 := by
  rw [pCheck, if_pos rfl] at h
  split at h
  · simp at h
  · rename_i h1
    split at h
    · simp at h
    · refine ⟨Decidable.byContradiction fun hx => h1 (.inl hx), Decidable.byContradiction fun hx => h1 (.inr hx), by omega, h⟩
theorem top_mk {k : Int} {t : ByteArray} {n : Int} {rs : List Rep} (h : pCheck k t n rs = 0) (q : List UInt8) : pTop (pEnc k t n rs ++ q) = .ok (pGot k t n rs, q) := by
  by_cases hk : k = 6
  · subst hk
    obtain ⟨_, _, h3, h4⟩ := check_list h
    rw [pEnc, if_pos rfl, pGot, if_pos rfl, pEncList]
    rw [List.cons_append, List.cons_append, pTop, if_pos rfl, List.append_assoc, List.append_assoc, pList]
    have := pNumber_mk rs.length (pBody rs ++ q) (by omega) (by omega)
    rw [show (Lib.itoa (rs.length : Int) ++ ([13, 10] ++ (pBody rs ++ q))) = Lib.itoa (rs.length : Int) ++ 13 :: 10 :: (pBody rs ++ q) from rfl, this]
    simp only
    rw [if_neg (by omega), Int.toNat_natCast, many_mk rs q (first_all rs h4)]
  · rw [pEnc, if_neg hk, pGot, if_neg hk]
    rw [pCheck, if_neg hk] at h
    obtain ⟨c, l, e1, e2, e3⟩ := single_mk h q
    rw [e1, pTop, if_neg e2, e3]
theorem all_mk {k : Int} {t : ByteArray} {n : Int} {rs : List Rep} (h : pCheck k t n rs = 0) : pAll (pEnc k t n rs) = .ok (pGot k t n rs) := by
  have := top_mk h []
  rw [List.append_nil] at this
  rw [pAll_top this]
  rfl
theorem apart {k k' : Int} {t t' : ByteArray} {n n' : Int} {rs rs' : List Rep} (h : pCheck k t n rs = 0) (h' : pCheck k' t' n' rs' = 0) (hp : pEnc k t n rs <+: pEnc k' t' n' rs') : pGot k t n rs = pGot k' t' n' rs' := by
  obtain ⟨z, hz⟩ := hp
  have h1 := top_mk h z
  have h2 := top_mk h' []
  rw [List.append_nil, ← hz, h1] at h2
  simp at h2
  exact h2.1
theorem got_check {k : Int} {t : ByteArray} {n : Int} {rs : List Rep} (h : pCheck k t n rs = 0) : gotCheck (pGot k t n rs) = 0 := by
  by_cases hk : k = 6
  · subst hk
    obtain ⟨_, _, h3, h4⟩ := check_list h
    rw [pGot, if_pos rfl]
    simp only [gotCheck]
    rw [pCheck, if_pos rfl, if_neg (by simp [ByteArray.toList_eq]), if_neg (by simp; omega)]
    refine all_first _ (fun r hr => ?_)
    simp at hr
    obtain ⟨x, hx, rfl⟩ := hr
    have hc := first_all rs h4 x hx
    have hl := (check1_parts hc).2.2.1
    rw [hl] at hc
    simp only [One.rep, Rep.one]
    exact hc
  · rw [pGot, if_neg hk]
    simp only [gotCheck]
    rw [pCheck, if_neg hk] at h ⊢
    have hl := (check1_parts h).2.2.1
    rw [hl] at h
    exact h
def gotEnc : Got → List UInt8
  | .one r => pEnc1 r.k r.t r.n
  | .many rs => pEncList (rs.map One.rep)
theorem all_inv {l : List UInt8} {g : Got} (h : pAll l = .ok g) : l = gotEnc g := by
  cases l with
  | nil => simp [pAll] at h
  | cons c l =>
    have hat : ∀ g' q, atEnd g' q = .ok g → g = g' ∧ q = [] := fun g' q hx => by cases q <;> simp [atEnd] at hx; exact ⟨hx.symm, rfl⟩
    rw [pAll] at h
    split at h
    · rename_i hc
      subst hc
      split at h
      · simp at h
      · rename_i rs q he
        obtain ⟨rfl, rfl⟩ := hat _ _ h
        unfold pList at he
        split at he
        · simp at he
        · rename_i n q1 he2
          split at he
          · simp at he
          · have e1 := pNumber_inv he2
            have e2 := many_inv _ _ _ _ he
            have e3 := (pMany_size _ _ _ _ he).2
            simp only [gotEnc, pEncList, List.length_map]
            rw [e1, e2, List.append_nil, e3]
            obtain ⟨m, rfl⟩ := Int.eq_ofNat_of_zero_le (show 0 ≤ n by omega)
            simp
    · split at h
      · simp at h
      · rename_i r q he
        obtain ⟨rfl, rfl⟩ := hat _ _ h
        rw [single_inv he]
        simp [gotEnc]
end Go.Proofs.YtolpmaapdkhigaaDoor
