/- What Words tells, Feed hands out: the plain part. -/
import Derived.Test.YtolpmaapdkhigaaDoorPlain2
import Derived.Test.YtolpmaapdkhigaaDoorWords2
namespace Go.Proofs.YtolpmaapdkhigaaDoor
open Go.RowKit

theorem two_digits : ∀ n : Fin 100, Lib.itoa (n.val : Int) = if n.val < 10 then [UInt8.ofNat (48 + n.val)] else [UInt8.ofNat (48 + n.val / 10), UInt8.ofNat (48 + n.val % 10)] := by decide +kernel

theorem dig_ofNat {d : Nat} (h : d < 10) : isDig (UInt8.ofNat (48 + d)) = true ∧ (UInt8.ofNat (48 + d)).toNat = 48 + d := by
  have e : (UInt8.ofNat (48 + d)).toNat = 48 + d := by simp; omega
  exact ⟨by simp only [isDig, e]; exact decide_eq_true (by omega), e⟩

theorem tail_end (most n : Nat) (r : List UInt8) : pTail most n (13 :: 10 :: r) = .ok (n, r) := by
  simp [pTail, mayC, pMust]

/-- a number of at most two digits is read as it is told -/
theorem count_told (least most n : Nat) (r : List UInt8) (h1 : least ≤ n) (hl : least ≤ 1) (h2 : n ≤ most) (h3 : most < 100) : pCount least most (Lib.itoa (n : Int) ++ 13 :: 10 :: r) = .ok (n, r) := by
  rw [two_digits ⟨n, by omega⟩]
  by_cases h10 : n < 10
  · obtain ⟨d1, d2⟩ := dig_ofNat h10
    rw [if_pos h10]
    simp only [List.cons_append, List.nil_append, pCount, d1, d2, if_true]
    rw [if_neg (by omega), tail_end]
    have e : 48 + n - 48 = n := by omega
    rw [e]
  · have hq : n / 10 < 10 := by omega
    have hm : n % 10 < 10 := by omega
    obtain ⟨d1, d2⟩ := dig_ofNat hq
    obtain ⟨d3, d4⟩ := dig_ofNat hm
    rw [if_neg h10]
    simp only [List.cons_append, List.nil_append, pCount, d1, d2, if_true]
    rw [if_neg (by omega)]
    have hmay : mayC ((48 + n / 10 - 48 : Nat) : Int) (UInt8.ofNat (48 + n % 10)) = true := by
      simp only [mayC, d3, Bool.and_true, Bool.or_eq_true, decide_eq_true_eq]
      right
      omega
    have h13 : ¬ UInt8.ofNat (48 + n % 10) = 13 := fun e => by
      have := congrArg UInt8.toNat e
      rw [d4] at this
      have h13 : (13 : UInt8).toNat = 13 := rfl
      omega
    simp only [pTail, hmay, if_true, d4]
    rw [if_neg h13, if_neg (by omega)]
    have e : 10 * (48 + n / 10 - 48) + (48 + n % 10 - 48) = n := by omega
    rw [e]
    exact tail_end most n r

theorem word_told (x q : List UInt8) (h : x.length ≤ 60) : pWord (pWordB x ++ q) = .ok (x, q) := by
  have e : pWordB x ++ q = 36 :: (Lib.itoa (x.length : Int) ++ 13 :: 10 :: (x ++ 13 :: 10 :: q)) := by simp [pWordB]
  rw [e]
  have h1 : pMust [36] (36 :: (Lib.itoa (x.length : Int) ++ 13 :: 10 :: (x ++ 13 :: 10 :: q))) = .ok (Lib.itoa (x.length : Int) ++ 13 :: 10 :: (x ++ 13 :: 10 :: q)) := by simp [pMust]
  have h2 := count_told 0 60 x.length (x ++ 13 :: 10 :: q) (by omega) (by omega) h (by omega)
  simp only [pWord, h1, h2]
  rw [if_neg (by simp), List.drop_left, List.take_left]
  simp [pMust]

theorem words_told : ∀ (xs : List (List UInt8)) (q : List UInt8), (∀ x ∈ xs, x.length ≤ 60) → pWords xs.length ((xs.map pWordB).flatten ++ q) = .ok (xs, q)
  | [], q, _ => by simp [pWords]
  | x :: xs, q, h => by
    have h1 := word_told x ((xs.map pWordB).flatten ++ q) (h x (by simp))
    have h2 := words_told xs q (fun y hy => h y (by simp [hy]))
    simp only [List.map_cons, List.flatten_cons, List.append_assoc, List.length_cons, pWords, h1, h2]

theorem command_told (xs : List (List UInt8)) (q : List UInt8) (h1 : 1 ≤ xs.length) (h2 : xs.length ≤ 12) (h : ∀ x ∈ xs, x.length ≤ 60) : pCommand (pWordsB xs ++ q) = .ok (xs, q) := by
  have e : pWordsB xs ++ q = 42 :: (Lib.itoa (xs.length : Int) ++ 13 :: 10 :: ((xs.map pWordB).flatten ++ q)) := by simp [pWordsB]
  rw [e]
  have h3 : pMust [42] (42 :: (Lib.itoa (xs.length : Int) ++ 13 :: 10 :: ((xs.map pWordB).flatten ++ q))) = .ok (Lib.itoa (xs.length : Int) ++ 13 :: 10 :: ((xs.map pWordB).flatten ++ q)) := by simp [pMust]
  have h4 := count_told 1 12 xs.length ((xs.map pWordB).flatten ++ q) h1 (by omega) h2 (by omega)
  simp only [pCommand, h3, h4]
  exact words_told xs q h

/-- is it a command? -/
def isCmd (xs : List (List UInt8)) : Bool := decide ((pWordsR xs).2 = 0)
theorem isCmd_iff (xs : List (List UInt8)) (h : isCmd xs = true) : pWordsR xs = (pWordsB xs, 0) ∧ 1 ≤ xs.length ∧ xs.length ≤ 12 ∧ ∀ x ∈ xs, x.length ≤ 60 := by
  have h0 : (pWordsR xs).2 = 0 := of_decide_eq_true h
  unfold pWordsR at h0 ⊢
  split at h0
  · simp at h0
  · rename_i h1
    split at h0
    · simp at h0
    · rename_i h2
      split at h0
      · simp at h0
      · rename_i h3
        rw [if_neg h1, if_neg h2, if_neg h3]
        refine ⟨rfl, by omega, by omega, fun x hx => ?_⟩
        apply Decidable.byContradiction
        intro hc
        exact h3 (List.any_eq_true.2 ⟨x, hx, decide_eq_true (by omega)⟩)

/-- the bytes of all commands that are some -/
def manyB (L : List (List (List UInt8))) : List UInt8 := ((L.filter isCmd).map pWordsB).flatten

theorem many_feed : ∀ (C : List (List (List UInt8))), (∀ c ∈ C, isCmd c = true) → pFeed ((C.map pWordsB).flatten) = (C, [], 0)
  | [], _ => rfl
  | c :: C, h => by
    obtain ⟨_, h1, h2, h3⟩ := isCmd_iff c (h c (by simp))
    have h4 := command_told c ((C.map pWordsB).flatten) h1 h2 h3
    have h5 := many_feed C (fun x hx => h x (by simp [hx]))
    rw [List.map_cons, List.flatten_cons, pFeed_ok (by simp [pWordsB]) h4, h5]
theorem many_told (L : List (List (List UInt8))) : pFeedR (manyB L) = (L.filter isCmd, [], 0) := by
  have h := many_feed (L.filter isCmd) (fun c hc => (List.mem_filter.1 hc).2)
  rw [pFeedR, manyB, h]
  simp

/-- how much a command weighs -/
def cost (xs : List (List UInt8)) : Nat := 1 + (xs.map (fun x => x.length + 1)).sum
theorem itoa_two (n : Nat) (h : n < 100) : (Lib.itoa (n : Int)).length ≤ 2 := by
  rw [two_digits ⟨n, h⟩]
  split <;> simp
theorem words_len : ∀ (xs : List (List UInt8)), (∀ x ∈ xs, x.length ≤ 60) → ((xs.map pWordB).flatten).length ≤ 7 * (xs.map (fun x => x.length + 1)).sum
  | [], _ => by simp
  | x :: xs, h => by
    have h1 := words_len xs (fun y hy => h y (by simp [hy]))
    have h2 := itoa_two x.length (by have := h x (by simp); omega)
    simp only [List.map_cons, List.flatten_cons, List.length_append, List.sum_cons, pWordB, List.length_cons, List.length_nil] at *
    omega
theorem wordsB_len (xs : List (List UInt8)) (h : isCmd xs = true) : (pWordsB xs).length ≤ 7 * cost xs := by
  obtain ⟨_, h1, h2, h3⟩ := isCmd_iff xs h
  have h4 := words_len xs h3
  have h5 := itoa_two xs.length (by omega)
  simp only [pWordsB, cost, List.length_append, List.length_cons, List.length_nil] at *
  omega
theorem manyB_len : ∀ (L : List (List (List UInt8))), (manyB L).length ≤ 7 * (L.map cost).sum
  | [] => by simp [manyB]
  | c :: L => by
    have h1 := manyB_len L
    simp only [manyB, List.map_cons, List.sum_cons, List.filter_cons] at *
    split
    · rename_i hc
      have := wordsB_len c hc
      simp only [List.map_cons, List.flatten_cons, List.length_append]
      omega
    · omega
theorem manyB_take (L : List (List (List UInt8))) (k : Nat) (h : k < L.length) : manyB (L.take (k + 1)) = manyB (L.take k) ++ (if isCmd L[k] then pWordsB L[k] else []) := by
  rw [List.take_succ_eq_append_getElem h]
  simp only [manyB, List.filter_append, List.map_append, List.flatten_append, List.filter_cons, List.filter_nil]
  split <;> simp
end Go.Proofs.YtolpmaapdkhigaaDoor
