/- Plain facts on what command and the feeding loop compute. -/
import Derived.Test.YtolpmaapdkhigaaDoorCommand
namespace Go.Proofs.YtolpmaapdkhigaaDoor
open Go.RowKit

theorem pMust_suffix : ∀ (cs l : List UInt8) (r : List UInt8), pMust cs l = .ok r → l.length = r.length + cs.length ∧ r <:+ l
  | [], l, r, h => by simp [pMust] at h; subst h; exact ⟨by simp, List.suffix_refl _⟩
  | _ :: _, [], r, h => by simp [pMust] at h
  | c :: cs, d :: l, r, h => by
    simp only [pMust] at h
    split at h
    · obtain ⟨h1, h2⟩ := pMust_suffix cs l r h
      exact ⟨by simp only [List.length_cons]; omega, h2.trans (List.suffix_cons _ _)⟩
    · simp at h
theorem pMust_err : ∀ (cs l : List UInt8) (n : Nat), pMust cs l = .error n → n = 1 ∨ n = 8
  | [], l, n, h => by simp [pMust] at h
  | _ :: _, [], n, h => by simp [pMust] at h; omega
  | c :: cs, d :: l, n, h => by
    simp only [pMust] at h
    split at h
    · exact pMust_err cs l n h
    · simp at h; omega
theorem pTail_suffix {most : Nat} : ∀ (l : List UInt8) (n k : Nat) (r : List UInt8), pTail most n l = .ok (k, r) → r.length < l.length ∧ r <:+ l := by
  intro l
  induction l with
  | nil => intro n k r h; simp [pTail] at h
  | cons c l ih =>
    intro n k r h
    simp only [pTail] at h
    split at h
    · split at h
      · split at h
        · rename_i r' hm
          simp at h
          obtain ⟨h1, h2⟩ := pMust_suffix _ _ _ hm
          obtain ⟨_, rfl⟩ := h
          simp only [List.length_cons, List.length_nil] at h1 ⊢
          exact ⟨by omega, h2.trans (List.suffix_cons _ _)⟩
        · simp at h
      · split at h
        · simp at h
        · obtain ⟨h1, h2⟩ := ih _ _ _ h
          exact ⟨by simp only [List.length_cons]; omega, h2.trans (List.suffix_cons _ _)⟩
    · simp at h
theorem pTail_err {most : Nat} : ∀ (l : List UInt8) (n k : Nat), pTail most n l = .error k → k = 1 ∨ k = 2 ∨ k = 8 := by
  intro l
  induction l with
  | nil => intro n k h; simp [pTail] at h; omega
  | cons c l ih =>
    intro n k h
    simp only [pTail] at h
    split at h
    · split at h
      · split at h
        · simp at h
        · rename_i e he
          simp at h
          have := pMust_err _ _ _ he
          omega
      · split at h
        · simp at h; omega
        · exact ih _ _ h
    · simp at h; omega
theorem pCount_suffix {least most : Nat} {l : List UInt8} {k : Nat} {r : List UInt8} (h : pCount least most l = .ok (k, r)) : r.length < l.length ∧ r <:+ l := by
  cases l with
  | nil => simp [pCount] at h
  | cons c l =>
    simp only [pCount] at h
    split at h
    · split at h
      · simp at h
      · obtain ⟨h1, h2⟩ := pTail_suffix _ _ _ _ h
        exact ⟨by simp only [List.length_cons]; omega, h2.trans (List.suffix_cons _ _)⟩
    · simp at h
theorem pCount_err {least most : Nat} {l : List UInt8} {k : Nat} (h : pCount least most l = .error k) : k = 1 ∨ k = 2 ∨ k = 8 := by
  cases l with
  | nil => simp [pCount] at h; omega
  | cons c l =>
    simp only [pCount] at h
    split at h
    · split at h
      · simp at h; omega
      · exact pTail_err _ _ _ h
    · simp at h; omega
theorem pWord_suffix {l x r : List UInt8} (h : pWord l = .ok (x, r)) : r.length < l.length ∧ r <:+ l ∧ x.length ≤ 60 := by
  simp only [pWord] at h
  split at h
  · simp at h
  · rename_i l1 h1
    split at h
    · simp at h
    · rename_i m l2 h2
      split at h
      · simp at h
      · split at h
        · simp at h
        · rename_i hlen l3 h3
          simp at h
          obtain ⟨rfl, rfl⟩ := h
          obtain ⟨a1, b1⟩ := pMust_suffix _ _ _ h1
          obtain ⟨a2, b2⟩ := pCount_suffix h2
          obtain ⟨a3, b3⟩ := pMust_suffix _ _ _ h3
          have := pCount_le (by omega) h2
          simp only [List.length_cons, List.length_nil, List.length_drop] at a1 a3
          exact ⟨by omega, ((b3.trans (List.drop_suffix _ _)).trans b2).trans b1, by rw [List.length_take]; omega⟩
theorem pWord_err {l : List UInt8} {k : Nat} (h : pWord l = .error k) : k = 1 ∨ k = 2 ∨ k = 8 := by
  simp only [pWord] at h
  split at h
  · rename_i e he
    simp at h
    have := pMust_err _ _ _ he
    omega
  · split at h
    · rename_i e he
      simp at h
      have := pCount_err he
      omega
    · split at h
      · simp at h; omega
      · split at h
        · rename_i e he
          simp at h
          have := pMust_err _ _ _ he
          omega
        · simp at h
theorem pWords_suffix : ∀ (n : Nat) (l : List UInt8) (xs : List (List UInt8)) (r : List UInt8), pWords n l = .ok (xs, r) → r.length ≤ l.length ∧ r <:+ l ∧ xs.length = n ∧ ∀ x ∈ xs, x.length ≤ 60 := by
  intro n
  induction n with
  | zero => intro l xs r h; simp [pWords] at h; obtain ⟨rfl, rfl⟩ := h; exact ⟨Nat.le_refl _, List.suffix_refl _, rfl, fun x hx => by cases hx⟩
  | succ n ih =>
    intro l xs r h
    simp only [pWords] at h
    split at h
    · simp at h
    · rename_i x l1 h1
      split at h
      · simp at h
      · rename_i ys l2 h2
        simp at h
        obtain ⟨rfl, rfl⟩ := h
        obtain ⟨a1, b1, c1⟩ := pWord_suffix h1
        obtain ⟨a2, b2, c2, d2⟩ := ih _ _ _ h2
        refine ⟨by omega, b2.trans b1, by simp [c2], fun y hy => ?_⟩
        rcases List.mem_cons.1 hy with rfl | hy
        · exact c1
        · exact d2 y hy
theorem pWords_err : ∀ (n : Nat) (l : List UInt8) (k : Nat), pWords n l = .error k → k = 1 ∨ k = 2 ∨ k = 8 := by
  intro n
  induction n with
  | zero => intro l k h; simp [pWords] at h
  | succ n ih =>
    intro l k h
    simp only [pWords] at h
    split at h
    · rename_i e he
      simp at h
      have := pWord_err he
      omega
    · split at h
      · rename_i e he
        simp at h
        subst h
        exact ih _ _ he
      · simp at h
theorem pCommand_suffix {l : List UInt8} {xs : List (List UInt8)} {r : List UInt8} (h : pCommand l = .ok (xs, r)) : r.length < l.length ∧ r <:+ l ∧ xs.length ≤ 12 ∧ ∀ x ∈ xs, x.length ≤ 60 := by
  simp only [pCommand] at h
  split at h
  · simp at h
  · rename_i l1 h1
    split at h
    · simp at h
    · rename_i n l2 h2
      obtain ⟨a1, b1⟩ := pMust_suffix _ _ _ h1
      obtain ⟨a2, b2⟩ := pCount_suffix h2
      obtain ⟨a3, b3, c3, d3⟩ := pWords_suffix _ _ _ _ h
      have := pCount_le (by omega) h2
      exact ⟨by omega, (b3.trans b2).trans b1, by omega, d3⟩
theorem pCommand_err {l : List UInt8} {k : Nat} (h : pCommand l = .error k) : k = 1 ∨ k = 2 ∨ k = 8 := by
  simp only [pCommand] at h
  split at h
  · rename_i e he
    simp at h
    have := pMust_err _ _ _ he
    omega
  · split at h
    · rename_i e he
      simp at h
      have := pCount_err he
      omega
    · exact pWords_err _ _ _ h

/-- the feeding loop, as a plain function: the commands, what is left from the last one on, why it gave up (0: it did not) -/
def pFeedF : Nat → List UInt8 → List (List (List UInt8)) × List UInt8 × Nat
  | 0, l => ([], l, 0)
  | _ + 1, [] => ([], [], 0)
  | f + 1, c :: l => match pCommand (c :: l) with
    | .error e => ([], c :: l, e)
    | .ok (ws, r) => (ws :: (pFeedF f r).1, (pFeedF f r).2)
def pFeed (l : List UInt8) : List (List (List UInt8)) × List UInt8 × Nat := pFeedF l.length l

def joinF (acc : List (List (List UInt8))) (x : List (List (List UInt8)) × List UInt8 × Nat) : List (List (List UInt8)) × List UInt8 × Nat := (acc ++ x.1, x.2)

theorem pFeedF_nil (f : Nat) : pFeedF f [] = ([], [], 0) := by cases f <;> rfl
theorem pFeedF_err {f : Nat} {l : List UInt8} {e : Nat} (hl : l ≠ []) (h : pCommand l = .error e) : pFeedF (f + 1) l = ([], l, e) := by
  cases l with
  | nil => exact absurd rfl hl
  | cons c l => simp only [pFeedF, h]
theorem pFeedF_ok {f : Nat} {l : List UInt8} {ws : List (List UInt8)} {r : List UInt8} (hl : l ≠ []) (h : pCommand l = .ok (ws, r)) : pFeedF (f + 1) l = (ws :: (pFeedF f r).1, (pFeedF f r).2) := by
  cases l with
  | nil => exact absurd rfl hl
  | cons c l => simp only [pFeedF, h]
theorem pFeedF_suffix : ∀ (f : Nat) (l : List UInt8), (pFeedF f l).2.1 <:+ l := by
  intro f
  induction f with
  | zero => intro l; exact List.suffix_refl _
  | succ f ih =>
    intro l
    cases l with
    | nil => exact List.suffix_refl _
    | cons c l =>
      cases h : pCommand (c :: l) with
      | error e => rw [pFeedF_err (by simp) h]; exact List.suffix_refl _
      | ok p =>
        obtain ⟨ws, r⟩ := p
        rw [pFeedF_ok (by simp) h]
        exact (ih r).trans (pCommand_suffix h).2.1
theorem pFeedF_fuel : ∀ (f g : Nat) (l : List UInt8), l.length ≤ f → l.length ≤ g → pFeedF f l = pFeedF g l := by
  intro f
  induction f with
  | zero => intro g l hl _; have : l = [] := List.eq_nil_of_length_eq_zero (by omega); subst this; rw [pFeedF_nil, pFeedF_nil]
  | succ f ih =>
    intro g l hl hg
    cases l with
    | nil => rw [pFeedF_nil, pFeedF_nil]
    | cons c l =>
      cases g with
      | zero => simp at hg
      | succ g =>
        cases h : pCommand (c :: l) with
        | error e => rw [pFeedF_err (by simp) h, pFeedF_err (by simp) h]
        | ok p =>
          obtain ⟨ws, r⟩ := p
          have hr := (pCommand_suffix h).1
          simp only [List.length_cons] at hl hr hg
          rw [pFeedF_ok (by simp) h, pFeedF_ok (by simp) h, ih g r (by omega) (by omega)]
theorem pFeed_err {l : List UInt8} {e : Nat} (hl : l ≠ []) (h : pCommand l = .error e) : pFeed l = ([], l, e) := by
  cases l with
  | nil => exact absurd rfl hl
  | cons c l => exact pFeedF_err (by simp) h
theorem pFeed_ok {l : List UInt8} {ws : List (List UInt8)} {r : List UInt8} (hl : l ≠ []) (h : pCommand l = .ok (ws, r)) : pFeed l = (ws :: (pFeed r).1, (pFeed r).2) := by
  cases l with
  | nil => exact absurd rfl hl
  | cons c l =>
    have hr := (pCommand_suffix h).1
    simp only [List.length_cons] at hr
    rw [pFeed, List.length_cons, pFeedF_ok (by simp) h, pFeedF_fuel l.length r.length r (by omega) (Nat.le_refl _)]
    rfl
theorem pFeed_nil : pFeed [] = ([], [], 0) := rfl
theorem pFeed_suffix (l : List UInt8) : (pFeed l).2.1 <:+ l := pFeedF_suffix _ _
/-- the loop gives up with 1, 2 or 8, or not -/
theorem pFeedF_code : ∀ (f : Nat) (l : List UInt8), (pFeedF f l).2.2 = 0 ∨ (pFeedF f l).2.2 = 1 ∨ (pFeedF f l).2.2 = 2 ∨ (pFeedF f l).2.2 = 8 := by
  intro f
  induction f with
  | zero => intro l; exact .inl rfl
  | succ f ih =>
    intro l
    cases l with
    | nil => exact .inl rfl
    | cons c l =>
      cases h : pCommand (c :: l) with
      | error e => rw [pFeedF_err (by simp) h]; have := pCommand_err h; simp only; omega
      | ok p =>
        obtain ⟨ws, r⟩ := p
        rw [pFeedF_ok (by simp) h]
        exact ih r
theorem pFeed_code (l : List UInt8) : (pFeed l).2.2 = 0 ∨ (pFeed l).2.2 = 1 ∨ (pFeed l).2.2 = 2 ∨ (pFeed l).2.2 = 8 := pFeedF_code _ _
theorem joinF_ok {acc : List (List (List UInt8))} {l : List UInt8} {ws : List (List UInt8)} {r : List UInt8} (hl : l ≠ []) (h : pCommand l = .ok (ws, r)) : joinF acc (pFeed l) = joinF (acc ++ [ws]) (pFeed r) := by
  rw [pFeed_ok hl h]
  simp [joinF]
/-- there are at most as many commands as bytes -/
theorem pFeedF_len : ∀ (f : Nat) (l : List UInt8), (pFeedF f l).1.length ≤ l.length := by
  intro f
  induction f with
  | zero => intro l; simp [pFeedF]
  | succ f ih =>
    intro l
    cases l with
    | nil => simp [pFeedF]
    | cons c l =>
      cases h : pCommand (c :: l) with
      | error e => rw [pFeedF_err (by simp) h]; simp
      | ok p =>
        obtain ⟨ws, r⟩ := p
        rw [pFeedF_ok (by simp) h]
        have hr := (pCommand_suffix h).1
        have := ih r
        simp only [List.length_cons] at hr ⊢
        omega
theorem pFeed_len (l : List UInt8) : (pFeed l).1.length ≤ l.length := pFeedF_len _ _
end Go.Proofs.YtolpmaapdkhigaaDoor
