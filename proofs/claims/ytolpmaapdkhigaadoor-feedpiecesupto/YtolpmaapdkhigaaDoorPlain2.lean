/- In whatever pieces a stream comes the commands are the same: the plain part. -/
import Derived.Test.YtolpmaapdkhigaaDoorFeed2
namespace Go.Proofs.YtolpmaapdkhigaaDoor
open Go.RowKit

theorem pMust_app : ∀ (cs l r q : List UInt8), pMust cs l = .ok r → pMust cs (l ++ q) = .ok (r ++ q)
  | [], l, r, q, h => by simp [pMust] at h ⊢; rw [h]
  | _ :: _, [], r, q, h => by simp [pMust] at h
  | c :: cs, d :: l, r, q, h => by
    simp only [pMust, List.cons_append] at h ⊢
    split at h
    · rename_i e; rw [if_pos e]; exact pMust_app cs l r q h
    · simp at h
theorem pMust_app_err : ∀ (cs l q : List UInt8) (n : Nat), n ≠ 8 → pMust cs l = .error n → pMust cs (l ++ q) = .error n
  | [], l, q, n, _, h => by simp [pMust] at h
  | _ :: _, [], q, n, hn, h => by simp [pMust] at h; omega
  | c :: cs, d :: l, q, n, hn, h => by
    simp only [pMust, List.cons_append] at h ⊢
    split at h
    · rename_i e; rw [if_pos e]; exact pMust_app_err cs l q n hn h
    · rename_i e; rw [if_neg e]; exact h
theorem pTail_app {most : Nat} (q : List UInt8) : ∀ (l : List UInt8) (n k : Nat) (r : List UInt8), pTail most n l = .ok (k, r) → pTail most n (l ++ q) = .ok (k, r ++ q) := by
  intro l
  induction l with
  | nil => intro n k r h; simp [pTail] at h
  | cons c l ih =>
    intro n k r h
    simp only [pTail, List.cons_append] at h ⊢
    split at h
    · rename_i hm
      rw [if_pos hm]
      split at h
      · rename_i h13
        rw [if_pos h13]
        split at h
        · rename_i r' hr
          simp at h
          rw [pMust_app _ _ _ q hr]
          simp [h]
        · simp at h
      · rename_i h13
        rw [if_neg h13]
        split at h
        · simp at h
        · rename_i hov
          rw [if_neg hov]
          exact ih _ _ _ h
    · simp at h
theorem pTail_app_err {most : Nat} (q : List UInt8) : ∀ (l : List UInt8) (n k : Nat), k ≠ 8 → pTail most n l = .error k → pTail most n (l ++ q) = .error k := by
  intro l
  induction l with
  | nil => intro n k hk h; simp [pTail] at h; omega
  | cons c l ih =>
    intro n k hk h
    simp only [pTail, List.cons_append] at h ⊢
    split at h
    · rename_i hm
      rw [if_pos hm]
      split at h
      · rename_i h13
        rw [if_pos h13]
        split at h
        · simp at h
        · rename_i e he
          simp at h
          subst h
          rw [pMust_app_err _ _ q _ hk he]
      · rename_i h13
        rw [if_neg h13]
        split at h
        · rename_i hov; rw [if_pos hov]; exact h
        · rename_i hov
          rw [if_neg hov]
          exact ih _ _ hk h
    · rename_i hm; rw [if_neg hm]; exact h
theorem pCount_app {least most : Nat} (q : List UInt8) {l : List UInt8} {k : Nat} {r : List UInt8} (h : pCount least most l = .ok (k, r)) : pCount least most (l ++ q) = .ok (k, r ++ q) := by
  cases l with
  | nil => simp [pCount] at h
  | cons c l =>
    simp only [pCount, List.cons_append] at h ⊢
    split at h
    · rename_i hd
      rw [if_pos hd]
      split at h
      · simp at h
      · rename_i hl; rw [if_neg hl]; exact pTail_app q _ _ _ _ h
    · simp at h
theorem pCount_app_err {least most : Nat} (q : List UInt8) {l : List UInt8} {k : Nat} (hk : k ≠ 8) (h : pCount least most l = .error k) : pCount least most (l ++ q) = .error k := by
  cases l with
  | nil => simp [pCount] at h; omega
  | cons c l =>
    simp only [pCount, List.cons_append] at h ⊢
    split at h
    · rename_i hd
      rw [if_pos hd]
      split at h
      · rename_i hl; rw [if_pos hl]; exact h
      · rename_i hl; rw [if_neg hl]; exact pTail_app_err q _ _ _ hk h
    · rename_i hd; rw [if_neg hd]; exact h
theorem pWord_app (q : List UInt8) {l x r : List UInt8} (h : pWord l = .ok (x, r)) : pWord (l ++ q) = .ok (x, r ++ q) := by
  simp only [pWord] at h ⊢
  split at h
  · simp at h
  · rename_i l1 h1
    rw [pMust_app _ _ _ q h1]
    simp only
    split at h
    · simp at h
    · rename_i m l2 h2
      rw [pCount_app q h2]
      simp only
      split at h
      · simp at h
      · rename_i hlen
        split at h
        · simp at h
        · rename_i l3 h3
          simp at h
          obtain ⟨rfl, rfl⟩ := h
          rw [if_neg (by simp; omega), List.drop_append_of_le_length (by omega), pMust_app _ _ _ q h3, List.take_append_of_le_length (by omega)]
theorem pWord_app_err (q : List UInt8) {l : List UInt8} {k : Nat} (hk : k ≠ 8) (h : pWord l = .error k) : pWord (l ++ q) = .error k := by
  simp only [pWord] at h ⊢
  split at h
  · rename_i e he
    simp at h
    subst h
    rw [pMust_app_err _ _ q _ hk he]
  · rename_i l1 h1
    rw [pMust_app _ _ _ q h1]
    simp only
    split at h
    · rename_i e he
      simp at h
      subst h
      rw [pCount_app_err q hk he]
    · rename_i m l2 h2
      rw [pCount_app q h2]
      simp only
      split at h
      · simp at h; omega
      · rename_i hlen
        split at h
        · rename_i e he
          simp at h
          subst h
          rw [if_neg (by simp; omega), List.drop_append_of_le_length (by omega), pMust_app_err _ _ q _ hk he]
        · simp at h
theorem pWords_app (q : List UInt8) : ∀ (n : Nat) (l : List UInt8) (xs : List (List UInt8)) (r : List UInt8), pWords n l = .ok (xs, r) → pWords n (l ++ q) = .ok (xs, r ++ q) := by
  intro n
  induction n with
  | zero => intro l xs r h; simp [pWords] at h ⊢; simp [h]
  | succ n ih =>
    intro l xs r h
    simp only [pWords] at h ⊢
    split at h
    · simp at h
    · rename_i x l1 h1
      rw [pWord_app q h1]
      simp only
      split at h
      · simp at h
      · rename_i ys l2 h2
        simp at h
        obtain ⟨rfl, rfl⟩ := h
        rw [ih _ _ _ h2]
theorem pWords_app_err (q : List UInt8) : ∀ (n : Nat) (l : List UInt8) (k : Nat), k ≠ 8 → pWords n l = .error k → pWords n (l ++ q) = .error k := by
  intro n
  induction n with
  | zero => intro l k _ h; simp [pWords] at h
  | succ n ih =>
    intro l k hk h
    simp only [pWords] at h ⊢
    split at h
    · rename_i e he
      simp at h
      subst h
      rw [pWord_app_err q hk he]
    · rename_i x l1 h1
      rw [pWord_app q h1]
      simp only
      split at h
      · rename_i e he
        simp at h
        subst h
        rw [ih _ _ hk he]
      · simp at h
theorem pCommand_app (q : List UInt8) {l : List UInt8} {xs : List (List UInt8)} {r : List UInt8} (h : pCommand l = .ok (xs, r)) : pCommand (l ++ q) = .ok (xs, r ++ q) := by
  simp only [pCommand] at h ⊢
  split at h
  · simp at h
  · rename_i l1 h1
    rw [pMust_app _ _ _ q h1]
    simp only
    split at h
    · simp at h
    · rename_i n l2 h2
      rw [pCount_app q h2]
      exact pWords_app q _ _ _ _ h
theorem pCommand_app_err (q : List UInt8) {l : List UInt8} {k : Nat} (hk : k ≠ 8) (h : pCommand l = .error k) : pCommand (l ++ q) = .error k := by
  simp only [pCommand] at h ⊢
  split at h
  · rename_i e he
    simp at h
    subst h
    rw [pMust_app_err _ _ q _ hk he]
  · rename_i l1 h1
    rw [pMust_app _ _ _ q h1]
    simp only
    split at h
    · rename_i e he
      simp at h
      subst h
      rw [pCount_app_err q hk he]
    · rename_i n l2 h2
      rw [pCount_app q h2]
      exact pWords_app_err q _ _ _ hk h

/-- what is fed in two pieces -/
theorem pFeed_app (q : List UInt8) : ∀ (f : Nat) (l : List UInt8), l.length ≤ f →
    (((pFeed l).2.2 = 0 ∨ (pFeed l).2.2 = 8) → pFeed (l ++ q) = joinF (pFeed l).1 (pFeed ((pFeed l).2.1 ++ q))) ∧
    (¬ ((pFeed l).2.2 = 0 ∨ (pFeed l).2.2 = 8) → (pFeed (l ++ q)).1 = (pFeed l).1 ∧ (pFeed (l ++ q)).2.2 = (pFeed l).2.2) := by
  intro f
  induction f with
  | zero =>
    intro l hl
    have : l = [] := List.eq_nil_of_length_eq_zero (by omega)
    subst this
    rw [pFeed_nil]
    exact ⟨fun _ => by simp [joinF], fun h => absurd (.inl rfl) h⟩
  | succ f ih =>
    intro l hl
    cases l with
    | nil =>
      rw [pFeed_nil]
      exact ⟨fun _ => by simp [joinF], fun h => absurd (.inl rfl) h⟩
    | cons c l =>
      cases h : pCommand (c :: l) with
      | error e =>
        rw [pFeed_err (by simp) h]
        refine ⟨fun _ => by simp [joinF], fun hn => ?_⟩
        have h2 := pCommand_app_err q (k := e) (fun e8 => hn (.inr e8)) h
        rw [pFeed_err (by simp) h2]
        exact ⟨rfl, rfl⟩
      | ok p =>
        obtain ⟨ws, r⟩ := p
        have hr := (pCommand_suffix h).1
        have h2 := pCommand_app q h
        rw [pFeed_ok (by simp) h, pFeed_ok (by simp) h2]
        simp only [List.length_cons] at hl hr
        obtain ⟨i1, i2⟩ := ih r (by omega)
        refine ⟨fun hc => ?_, fun hc => ?_⟩
        · rw [i1 hc]
          simp [joinF]
        · obtain ⟨i3, i4⟩ := i2 hc
          exact ⟨by simp [i3], i4⟩

/-- Feed in two pieces -/
theorem pFeedR_app (l q : List UInt8) :
    ((pFeedR l).2.2 = 0 → pFeedR (l ++ q) = joinF (pFeedR l).1 (pFeedR ((pFeedR l).2.1 ++ q))) ∧ (¬ (pFeedR l).2.2 = 0 → pFeedR (l ++ q) = ((pFeedR l).1, [], (pFeedR l).2.2)) := by
  obtain ⟨h1, h2⟩ := pFeed_app q l.length l (Nat.le_refl _)
  by_cases hc : (pFeed l).2.2 = 0 ∨ (pFeed l).2.2 = 8
  · have e1 : pFeedR l = ((pFeed l).1, (pFeed l).2.1, 0) := by rw [pFeedR, if_pos hc]
    rw [e1]
    refine ⟨fun _ => ?_, fun hn => absurd rfl hn⟩
    have h3 := h1 hc
    simp only
    have e2 : (pFeed (l ++ q)).2 = (pFeed ((pFeed l).2.1 ++ q)).2 := by rw [h3]; rfl
    have e3 : (pFeed (l ++ q)).1 = (pFeed l).1 ++ (pFeed ((pFeed l).2.1 ++ q)).1 := by rw [h3]; rfl
    simp only [pFeedR, joinF, e2, e3]
    split <;> rfl
  · have e1 : pFeedR l = ((pFeed l).1, [], (pFeed l).2.2) := by rw [pFeedR, if_neg hc]
    rw [e1]
    obtain ⟨h3, h4⟩ := h2 hc
    refine ⟨fun h0 => absurd (.inl h0) hc, fun _ => ?_⟩
    rw [pFeedR, if_neg (by rw [h4]; exact hc), h3, h4]
end Go.Proofs.YtolpmaapdkhigaaDoor
