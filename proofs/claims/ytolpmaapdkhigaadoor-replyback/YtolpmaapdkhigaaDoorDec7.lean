/- PLAIN facts on decoding. -/
import Derived.Test.YtolpmaapdkhigaaDoorDec6
namespace Go.Proofs.YtolpmaapdkhigaaDoor
open Go.RowKit

theorem pMust_code : ∀ (cs l : List UInt8) (n : Nat), pMust cs l = .error n → n = 1 ∨ n = 8
  | [], l, n, h => by simp [pMust] at h
  | c :: cs, [], n, h => by simp [pMust] at h; omega
  | c :: cs, d :: l, n, h => by
    rw [pMust] at h
    split at h
    · exact pMust_code cs l n h
    · simp at h; omega
theorem pLine_code : ∀ (l : List UInt8) (n : Nat), pLine l = .error n → n = 1 ∨ n = 8
  | [], n, h => by simp [pLine] at h; omega
  | c :: r, n, h => by
    rw [pLine] at h
    split at h
    · simp at h
    · split at h
      · rename_i e he
        simp at h
        subst h
        exact pLine_code r _ he
      · simp at h
theorem pNumber_code {l : List UInt8} {n : Nat} (h : pNumber l = .error n) : n = 1 ∨ n = 8 := by
  unfold pNumber at h
  split at h
  · rename_i e he
    simp at h
    subst h
    exact pLine_code l _ he
  · split at h
    · simp at h
    · simp at h; omega
theorem pBytes_code {l : List UInt8} {n : Nat} (h : pBytes l = .error n) : n = 1 ∨ n = 8 := by
  unfold pBytes at h
  split at h
  · rename_i e he
    simp at h
    subst h
    exact pNumber_code he
  · split at h
    · simp at h
    · split at h
      · simp at h; omega
      · split at h
        · simp at h; omega
        · split at h
          · rename_i e he
            simp at h
            subst h
            exact pMust_code _ _ _ he
          · simp at h
theorem pSingle_code {c : UInt8} {l : List UInt8} {n : Nat} (h : pSingle c l = .error n) : n = 1 ∨ n = 8 := by
  unfold pSingle at h
  split at h
  · split at h
    · rename_i e he; simp at h; subst h; exact pLine_code l _ he
    · simp at h
  · split at h
    · split at h
      · rename_i e he; simp at h; subst h; exact pNumber_code he
      · simp at h
    · split at h
      · split at h
        · rename_i e he; simp at h; subst h; exact pNumber_code he
        · simp at h
      · split at h
        · exact pBytes_code h
        · simp at h; omega
theorem pMany_code : ∀ (k : Nat) (l : List UInt8) (n : Nat), pMany k l = .error n → n = 1 ∨ n = 8
  | 0, l, n, h => by simp [pMany] at h
  | k + 1, [], n, h => by simp [pMany] at h; omega
  | k + 1, c :: l, n, h => by
    rw [pMany] at h
    split at h
    · rename_i e he; simp at h; subst h; exact pSingle_code he
    · split at h
      · rename_i e he; simp at h; subst h; exact pMany_code k _ _ he
      · simp at h
theorem pAll_code {l : List UInt8} {n : Nat} (h : pAll l = .error n) : n = 1 ∨ n = 8 := by
  cases l with
  | nil => simp [pAll] at h; omega
  | cons c l =>
    have hat : ∀ g q, atEnd g q = .error n → n = 1 ∨ n = 8 := fun g q hx => by cases q <;> simp [atEnd] at hx; omega
    rw [pAll] at h
    split at h
    · split at h
      · rename_i e he
        simp at h
        subst h
        unfold pList at he
        split at he
        · rename_i e2 he2; simp at he; subst he; exact pNumber_code he2
        · split at he
          · simp at he; omega
          · exact pMany_code _ _ _ he
      · exact hat _ _ h
    · split at h
      · rename_i e he; simp at h; subst h; exact pSingle_code he
      · exact hat _ _ h

theorem pSingle_size {c : UInt8} {l q : List UInt8} {r : One} (h : pSingle c l = .ok (r, q)) : r.t.length ≤ l.length ∧ q.length ≤ l.length := by
  have num : ∀ {v : Int} {q : List UInt8}, pNumber l = .ok (v, q) → q.length ≤ l.length := fun hx => by have := (pNumber_bounds hx).2.2.2; omega
  unfold pSingle at h
  split at h
  · split at h
    · simp at h
    · rename_i x q' he
      simp at h
      obtain ⟨rfl, rfl⟩ := h
      have := (pLine_len l _ _ he).1
      exact ⟨by simp only; omega, by omega⟩
  · split at h
    · split at h
      · simp at h
      · rename_i x q' he; simp at h; obtain ⟨rfl, rfl⟩ := h; exact ⟨by simp, num he⟩
    · split at h
      · split at h
        · simp at h
        · rename_i x q' he; simp at h; obtain ⟨rfl, rfl⟩ := h; exact ⟨by simp, num he⟩
      · split at h
        · unfold pBytes at h
          split at h
          · simp at h
          · rename_i n q' he
            have h1 := num he
            split at h
            · simp at h; obtain ⟨rfl, rfl⟩ := h; exact ⟨by simp, h1⟩
            · split at h
              · simp at h
              · split at h
                · simp at h
                · split at h
                  · simp at h
                  · rename_i q2 hm
                    simp at h
                    obtain ⟨rfl, rfl⟩ := h
                    refine ⟨by simp only [List.length_take]; omega, ?_⟩
                    have : ∀ (cs l r : List UInt8), pMust cs l = .ok r → r.length ≤ l.length := by
                      intro cs
                      induction cs with
                      | nil => intro l r hx; simp [pMust] at hx; subst hx; omega
                      | cons c cs ih =>
                        intro l r hx
                        cases l with
                        | nil => simp [pMust] at hx
                        | cons d l =>
                          rw [pMust] at hx
                          split at hx
                          · have := ih l r hx; simp; omega
                          · simp at hx
                    have h2 := this _ _ _ hm
                    simp at h2
                    omega
        · simp at h
theorem pMany_size : ∀ (k : Nat) (l : List UInt8) (rs : List One) (q : List UInt8), pMany k l = .ok (rs, q) → (∀ r ∈ rs, r.t.length ≤ l.length) ∧ rs.length = k
  | 0, l, rs, q, h => by simp [pMany] at h; obtain ⟨rfl, rfl⟩ := h; simp
  | k + 1, [], rs, q, h => by simp [pMany] at h
  | k + 1, c :: l, rs, q, h => by
    rw [pMany] at h
    split at h
    · simp at h
    · rename_i r q1 he
      split at h
      · simp at h
      · rename_i rs' q2 he2
        simp at h
        obtain ⟨rfl, rfl⟩ := h
        obtain ⟨h1, h2⟩ := pSingle_size he
        obtain ⟨h3, h4⟩ := pMany_size k q1 rs' _ he2
        refine ⟨fun x hx => ?_, by simp [h4]⟩
        rcases List.mem_cons.1 hx with rfl | hx
        · simp; omega
        · have := h3 x hx; simp; omega

def Got.all : Got → List One
  | .one r => [r]
  | .many rs => rs
theorem pAll_size {l : List UInt8} {g : Got} (h : pAll l = .ok g) : ∀ r ∈ g.all, r.t.length ≤ l.length := by
  cases l with
  | nil => simp [pAll] at h
  | cons c l =>
    have hat : ∀ g' q, atEnd g' q = .ok g → g = g' := fun g' q hx => by cases q <;> simp [atEnd] at hx; exact hx.symm
    rw [pAll] at h
    split at h
    · split at h
      · simp at h
      · rename_i rs q he
        have := hat _ _ h
        subst this
        unfold pList at he
        split at he
        · simp at he
        · rename_i n q1 he2
          split at he
          · simp at he
          · intro r hr
            have h1 := (pMany_size _ _ _ _ he).1 r hr
            have h2 := (pNumber_bounds he2).2.2.2
            simp
            omega
    · split at h
      · simp at h
      · rename_i r q he
        have := hat _ _ h
        subst this
        intro r' hr
        simp [Got.all] at hr
        subst hr
        have := (pSingle_size he).1
        simp
        omega

def One.rep (r : One) : Rep := ⟨r.k, ⟨r.t.toArray⟩, r.n, none, 0, 0⟩
def gotCheck : Got → Int
  | .one r => pCheck r.k ⟨r.t.toArray⟩ r.n []
  | .many rs => pCheck 6 ⟨#[]⟩ 0 (rs.map One.rep)
theorem onesRow_get : ∀ (l : List One) (i j : Nat) (h : i < l.length), j < 4 → (onesRow l)[i * 4 + j]? = (l[i].cells)[j]?
  | [], i, j, h, _ => by simp at h
  | s :: l, 0, j, h, hj => by
    simp only [onesRow, List.map_cons, List.flatten_cons]
    rw [List.getElem?_append_left (by simp [One.cells]; omega)]
    simp
  | s :: l, i + 1, j, h, hj => by
    have := onesRow_get l i j (by simpa using h) hj
    simp only [onesRow, List.map_cons, List.flatten_cons] at this ⊢
    rw [List.getElem?_append_right (by simp [One.cells]; omega)]
    have e : (i + 1) * 4 + j - (s.cells).length = i * 4 + j := by simp [One.cells]; omega
    rw [e, this]
    simp
theorem reps_of_ones {w : World} {g cap base : Nat} {rs : List One} (h : w.ownsRow base 24 4 (.slice (some ⟨g, 0, none⟩) rs.length cap) rs.length (onesRow rs)) (hs : ∀ r ∈ rs, r.t.length ≤ maxLen) :
    Reps w g 0 (rs.map One.rep) := by
  have hl : (onesRow rs).length = rs.length * 4 := h.1
  have hc : ∀ i j, i < rs.length → j < 4 → w.cell? ⟨g, i * 4 + j, none⟩ = (onesRow rs)[i * 4 + j]? := fun i j hi hj => h.cellAt (i * 4 + j) (by omega)
  refine ⟨?_, ?_, ?_, ?_, ?_⟩
  · intro i hi
    rw [List.length_map] at hi
    have := hc i 0 hi (by omega)
    rw [onesRow_get rs i 0 hi (by omega)] at this
    simpa [One.cells, One.rep] using this
  · intro i hi
    rw [List.length_map] at hi
    have := hc i 1 hi (by omega)
    rw [onesRow_get rs i 1 hi (by omega)] at this
    simpa [One.cells, One.rep] using this
  · intro i hi
    rw [List.length_map] at hi
    have := hc i 2 hi (by omega)
    rw [onesRow_get rs i 2 hi (by omega)] at this
    simpa [One.cells, One.rep] using this
  · intro i hi
    rw [List.length_map] at hi
    have := hc i 3 hi (by omega)
    rw [onesRow_get rs i 3 hi (by omega)] at this
    simpa [One.cells, One.rep] using this
  · intro r hr
    obtain ⟨s, hsm, rfl⟩ := List.mem_map.1 hr
    simp only [One.rep, size_mk]
    exact hs s hsm
theorem listAt_of_ones {w : World} {ao : Option Addr} {cap base : Nat} {rs : List One} (h : w.ownsRow base 24 4 (.slice ao rs.length cap) rs.length (onesRow rs)) (hs : ∀ r ∈ rs, r.t.length ≤ maxLen) :
    ListAt w ao (rs.map One.rep) := by
  rcases h.2 with ⟨hv, hz⟩ | ⟨g, cap', cur, hv, _⟩
  · have : rs = [] := List.length_eq_zero_iff.1 hz
    subst this
    exact .inl rfl
  · simp at hv
    obtain ⟨rfl, rfl⟩ := hv
    exact .inr ⟨g, 0, rfl, reps_of_ones h hs⟩
end Go.Proofs.YtolpmaapdkhigaaDoor
