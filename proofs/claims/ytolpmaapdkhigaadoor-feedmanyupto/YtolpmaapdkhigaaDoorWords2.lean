/- Words, whatever it is handed. -/
import Derived.Test.YtolpmaapdkhigaaDoorWords
namespace Go.Proofs.YtolpmaapdkhigaaDoor
open Go.RowKit

def lst (s : ByteArray) : List UInt8 := s.data.toList
/-- the bytes of a word, of a command -/
def pWordB (x : List UInt8) : List UInt8 := 36 :: (Lib.itoa x.length ++ 13 :: 10 :: (x ++ [13, 10]))
def pWordsB (xs : List (List UInt8)) : List UInt8 := (42 :: (Lib.itoa xs.length ++ [13, 10])) ++ (xs.map pWordB).flatten
/-- what Words answers -/
def pWordsR (xs : List (List UInt8)) : List UInt8 × Nat :=
  if xs.length = 0 then ([], 1) else if 12 < xs.length then ([], 2) else if xs.any (fun x => decide (60 < x.length)) then ([], 2) else (pWordsB xs, 0)

theorem empty_list : (⟨#[]⟩ : ByteArray).toList = [] := by decide +kernel

theorem check1_bytes (s : ByteArray) : pCheck1 4 s 0 0 = if 60 < s.size then 2 else 0 := by
  simp [pCheck1, pOther]

theorem first_ok : ∀ (ss : List ByteArray), (∀ s ∈ ss, s.size ≤ 60) → pFirst (ss.map Rep.ofBytes) = 0
  | [], _ => rfl
  | s :: ss, h => by
    rw [List.map_cons, pFirst_ok]
    · exact first_ok ss (fun x hx => h x (by simp [hx]))
    · show pCheck1 4 s 0 0 = 0
      rw [check1_bytes, if_neg (by have := h s (by simp); omega)]
theorem first_bad : ∀ (ss : List ByteArray), (∃ s ∈ ss, 60 < s.size) → pFirst (ss.map Rep.ofBytes) = 2
  | [], h => by obtain ⟨s, h, _⟩ := h; cases h
  | s :: ss, h => by
    rw [List.map_cons]
    by_cases hs : 60 < s.size
    · have e : pCheck1 4 s 0 0 = 2 := by rw [check1_bytes, if_pos hs]
      rw [pFirst_bad (r := Rep.ofBytes s)]
      · exact e
      · show ¬ pCheck1 4 s 0 0 = 0
        rw [e]; decide
    · rw [pFirst_ok (r := Rep.ofBytes s)]
      · refine first_bad ss ?_
        obtain ⟨x, hx, h6⟩ := h
        rcases List.mem_cons.1 hx with rfl | hx
        · exact absurd h6 hs
        · exact ⟨x, hx, h6⟩
      · show pCheck1 4 s 0 0 = 0
        rw [check1_bytes, if_neg hs]

theorem itoa_small_len (n : Nat) (h : n < 100) : (Lib.itoa (n : Int)).length ≤ 20 := by
  have : ∀ m : Fin 100, (Lib.itoa ((m.val : Nat) : Int)).length ≤ 20 := by decide +kernel
  exact this ⟨n, h⟩

theorem enc_words (ss : List ByteArray) : pEncList (ss.map Rep.ofBytes) = pWordsB (ss.map lst) := by
  have h : ∀ s : ByteArray, (Rep.ofBytes s).enc = pWordB (lst s) := fun s => by
    simp [Rep.enc, Rep.ofBytes, pEnc1, pWordB, lst]
  simp only [pEncList, pWordsB, pBody, List.length_map, List.map_map]
  have hf : Rep.enc ∘ Rep.ofBytes = pWordB ∘ lst := funext h
  rw [hf]

theorem words_any (a : Option Addr) (cap : Nat) (ss : List ByteArray) (w : World) (h : Strs w a ss) (hs : ∀ s ∈ ss, s.size ≤ maxLen) :
    Calls Tryd.prog 18 #[.slice a ss.length cap] w fun e w' => e = .returned (.tuple #[.string ⟨(pWordsR (ss.map lst)).1.toArray⟩, .int .i64 (pWordsR (ss.map lst)).2]) ∧ Below w.heap.size w w' := by
  rcases h with rfl | ⟨b, off, rfl, hA⟩
  · exact words_none a cap w
  · by_cases h0 : ss.length = 0
    · have : ss = [] := List.eq_nil_of_length_eq_zero h0
      subst this
      exact words_none _ cap w
    · by_cases h12 : 12 < ss.length
      · have e : pWordsR (ss.map lst) = ([], 2) := by rw [pWordsR, List.length_map, if_neg h0, if_pos h12]
        rw [e]
        exact words_many _ _ cap w (by omega)
      · by_cases h60 : ∃ s ∈ ss, 60 < s.size
        · have e : pWordsR (ss.map lst) = ([], 2) := by
            rw [pWordsR, List.length_map, if_neg h0, if_neg h12, if_pos]
            obtain ⟨s, h1, h2⟩ := h60
            rw [List.any_eq_true]
            exact ⟨lst s, List.mem_map.2 ⟨s, h1, rfl⟩, decide_eq_true (by rw [lst, size_list]; exact h2)⟩
          rw [e]
          refine words_walk b off cap ss w hA (by omega) (by omega) hs ⟨#[]⟩ 2 ?_
          intro w1 g cap1 hb1 hR
          have hp : pCheck 6 ⟨#[]⟩ 0 (ss.map Rep.ofBytes) = 2 := by
            rw [pCheck, if_pos rfl, if_neg (by simp), if_neg (by rw [List.length_map]; omega), first_bad ss h60]
          have := encode_err ⟨#[]⟩ 6 0 (some ⟨g, 0, none⟩) cap1 (ss.map Rep.ofBytes) w1 (by simp [ByteArray.size, maxLen]) (.inr ⟨g, 0, rfl, hR⟩) (by rw [hp]; decide)
          rw [hp, List.length_map] at this
          exact this
        · have h6 : ∀ s ∈ ss, s.size ≤ 60 := fun s hsm => by
            apply Decidable.byContradiction
            intro hc
            exact h60 ⟨s, hsm, by omega⟩
          have e : pWordsR (ss.map lst) = (pWordsB (ss.map lst), 0) := by
            rw [pWordsR, List.length_map, if_neg h0, if_neg h12, if_neg]
            rw [List.any_eq_true]
            rintro ⟨x, hx, h2⟩
            obtain ⟨s, h1, rfl⟩ := List.mem_map.1 hx
            have := h6 s h1
            have h3 : 60 < (lst s).length := of_decide_eq_true h2
            rw [lst, size_list] at h3
            omega
          rw [e]
          refine words_walk b off cap ss w hA (by omega) (by omega) hs ⟨(pWordsB (ss.map lst)).toArray⟩ 0 ?_
          intro w1 g cap1 hb1 hR
          have hI : ItoaOk 0 w (ss.map Rep.ofBytes).length ∧ (Lib.itoa (ss.map Rep.ofBytes).length).length ≤ 20 := by
            rw [List.length_map]
            exact ⟨itoaOk_small _ _ _ (by omega), itoa_small_len _ (by omega)⟩
          have := encode_list 0 w ⟨#[]⟩ g 0 cap1 (ss.map Rep.ofBytes) w1 (hb1.mono (Nat.zero_le _)) (Nat.zero_le _) empty_list hR (by rw [List.length_map]; omega) (first_ok ss h6) hI (by
            intro r hr
            obtain ⟨s, h1, rfl⟩ := List.mem_map.1 hr
            have := h6 s h1
            refine ⟨fun hk => ?_, fun _ => ⟨itoaOk_small _ _ _ (by show s.size < 100; omega), itoa_small_len _ (by show s.size < 100; omega)⟩, this⟩
            rcases hk with hk | hk <;> exact absurd hk (by show ¬ (4 : Int) = _; decide))
          rw [List.length_map, enc_words] at this
          exact this
end Go.Proofs.YtolpmaapdkhigaaDoor
