/- Hashes as plain data: what was put last of each field; pairs in the order of their fields. -/
import Derived.Test.YtnobcdhlagfhmaaSPl
namespace Go.Proofs.Ytnobcdhlagfhmaa

abbrev Pr := ByteArray × ByteArray
/-- the last pair of a field -/
def lastP (ms : List Pr) (f : ByteArray) : Option Pr := ms.reverse.find? fun p => decide (p.1 = f)
theorem lastP_snoc (ms : List Pr) (p : Pr) (f : ByteArray) : lastP (ms ++ [p]) f = if p.1 = f then some p else lastP ms f := by
  unfold lastP
  rw [List.reverse_append, List.reverse_singleton, List.singleton_append, List.find?_cons]
  by_cases h : p.1 = f <;> simp [h]
theorem lastP_field {ms : List Pr} {f : ByteArray} {p : Pr} (h : lastP ms f = some p) : p.1 = f := by
  have := List.find?_some h
  simpa using this
theorem lastP_mem {ms : List Pr} {f : ByteArray} {p : Pr} (h : lastP ms f = some p) : p ∈ ms := by
  have := List.mem_of_find?_eq_some h
  simpa using this
theorem lastP_some {ms : List Pr} {p : Pr} (h : p ∈ ms) : ∃ q, lastP ms p.1 = some q := by
  unfold lastP
  cases hf : ms.reverse.find? fun q => decide (q.1 = p.1) with
  | some q => exact ⟨q, rfl⟩
  | none =>
    have := List.find?_eq_none.1 hf p (by simpa using h)
    simp at this
/-- fields rise -/
def RisesP (l : List Pr) : Prop := l.Pairwise fun a b => lessT a.1 b.1
theorem risesP_inj {l : List Pr} (h : RisesP l) {p q : Pr} (hp : p ∈ l) (hq : q ∈ l) (e : p.1 = q.1) : p = q := by
  induction l with
  | nil => cases hp
  | cons a r ih =>
    have h' := List.pairwise_cons.1 h
    rcases List.mem_cons.1 hp with e1 | hp2
    · rcases List.mem_cons.1 hq with e2 | hq2
      · rw [e1, e2]
      · exact absurd (h'.1 q hq2) (by rw [← e1, e]; exact lessT_irrefl _)
    · rcases List.mem_cons.1 hq with e2 | hq2
      · exact absurd (h'.1 p hp2) (by rw [← e2, e]; exact lessT_irrefl _)
      · exact ih h'.2 hp2 hq2
theorem lastP_rises {l : List Pr} (h : RisesP l) {p : Pr} : lastP l p.1 = some p ↔ p ∈ l := by
  constructor
  · exact lastP_mem
  · intro hp
    obtain ⟨q, hq⟩ := lastP_some hp
    rw [hq, risesP_inj h hp (lastP_mem hq) (lastP_field hq).symm]
/-- two that rise and have the same members are one -/
theorem risesP_unique : ∀ {l m : List Pr}, RisesP l → RisesP m → (∀ x, x ∈ l ↔ x ∈ m) → l = m
  | [], [], _, _, _ => rfl
  | [], b :: m, _, _, h => by have := (h b).2 (by simp); cases this
  | a :: l, [], _, _, h => by have := (h a).1 (by simp); cases this
  | a :: l, b :: m, hl, hm, h => by
    have hl' := List.pairwise_cons.1 hl
    have hm' := List.pairwise_cons.1 hm
    have hab : a = b := by
      have h1 := (h a).1 (by simp)
      have h2 := (h b).2 (by simp)
      rcases List.mem_cons.1 h1 with e | h1
      · exact e
      rcases List.mem_cons.1 h2 with e | h2
      · exact e.symm
      exact absurd (lessT_trans (hm'.1 a h1) (hl'.1 b h2)) (lessT_irrefl _)
    subst hab
    congr 1
    refine risesP_unique hl'.2 hm'.2 (fun x => ⟨fun hx => ?_, fun hx => ?_⟩)
    · rcases List.mem_cons.1 ((h x).1 (by simp [hx])) with e | h1
      · subst e; exact absurd (hl'.1 _ hx) (lessT_irrefl _)
      · exact h1
    · rcases List.mem_cons.1 ((h x).2 (by simp [hx])) with e | h1
      · subst e; exact absurd (hm'.1 _ hx) (lessT_irrefl _)
      · exact h1
/-- a pair put in its place -/
def putP : List Pr → Pr → List Pr
  | [], p => [p]
  | a :: r, p => if cmpT a.1 p.1 < 0 then a :: putP r p else if a.1 = p.1 then p :: r else p :: a :: r
theorem mem_putP {l : List Pr} (h : RisesP l) {p q : Pr} : q ∈ putP l p ↔ q = p ∨ (q ∈ l ∧ q.1 ≠ p.1) := by
  induction l with
  | nil => simp [putP]
  | cons a r ih =>
    have h' := List.pairwise_cons.1 h
    rw [putP]
    split
    · rename_i hc
      have hlt := (cmpT_lt _ _).1 hc
      have hne : a.1 ≠ p.1 := fun e => by rw [e] at hlt; exact lessT_irrefl _ hlt
      rw [List.mem_cons, ih h'.2, List.mem_cons]
      constructor
      · rintro (rfl | rfl | ⟨h1, h2⟩)
        · exact .inr ⟨.inl rfl, hne⟩
        · exact .inl rfl
        · exact .inr ⟨.inr h1, h2⟩
      · rintro (rfl | ⟨rfl | h1, h2⟩)
        · exact .inr (.inl rfl)
        · exact .inl rfl
        · exact .inr (.inr ⟨h1, h2⟩)
    · rename_i hc
      split
      · rename_i he
        rw [List.mem_cons, List.mem_cons]
        constructor
        · rintro (rfl | h1)
          · exact .inl rfl
          · exact .inr ⟨.inr h1, fun e => by have := h'.1 q h1; rw [he, e] at this; exact lessT_irrefl _ this⟩
        · rintro (rfl | ⟨rfl | h1, h2⟩)
          · exact .inl rfl
          · exact absurd he h2
          · exact .inr h1
      · rename_i he
        have hlt : lessT p.1 a.1 := by
          rcases lessT_or a.1 p.1 with h1 | h1 | h1
          · exact absurd ((cmpT_lt _ _).2 h1) hc
          · exact absurd h1 he
          · exact h1
        rw [List.mem_cons, List.mem_cons]
        constructor
        · rintro (rfl | rfl | h1)
          · exact .inl rfl
          · exact .inr ⟨.inl rfl, he⟩
          · exact .inr ⟨.inr h1, fun e => by have := lessT_trans hlt (h'.1 q h1); rw [e] at this; exact lessT_irrefl _ this⟩
        · rintro (rfl | ⟨rfl | h1, h2⟩)
          · exact .inl rfl
          · exact .inr (.inl rfl)
          · exact .inr (.inr h1)
theorem rises_putP {l : List Pr} (h : RisesP l) (p : Pr) : RisesP (putP l p) := by
  induction l with
  | nil => simp [putP, RisesP]
  | cons a r ih =>
    have h' := List.pairwise_cons.1 h
    rw [putP]
    split
    · rename_i hc
      have hlt := (cmpT_lt _ _).1 hc
      refine List.pairwise_cons.2 ⟨fun q hq => ?_, ih h'.2⟩
      rcases (mem_putP h'.2).1 hq with rfl | ⟨h1, _⟩
      · exact hlt
      · exact h'.1 q h1
    · rename_i hc
      split
      · rename_i he
        exact List.pairwise_cons.2 ⟨fun q hq => by rw [← he]; exact h'.1 q hq, h'.2⟩
      · rename_i he
        have hlt : lessT p.1 a.1 := by
          rcases lessT_or a.1 p.1 with h1 | h1 | h1
          · exact absurd ((cmpT_lt _ _).2 h1) hc
          · exact absurd h1 he
          · exact h1
        refine List.pairwise_cons.2 ⟨fun q hq => ?_, h⟩
        rcases List.mem_cons.1 hq with rfl | h1
        · exact hlt
        · exact lessT_trans hlt (h'.1 q h1)
/-- pairs laid to those that are there -/
def togP (there l : List Pr) : List Pr := l.foldl putP there
theorem rises_togP {there : List Pr} (h : RisesP there) (l : List Pr) : RisesP (togP there l) := by
  induction l generalizing there with
  | nil => exact h
  | cons p r ih => exact ih (rises_putP h p)
theorem togP_snoc (there l : List Pr) (p : Pr) : togP there (l ++ [p]) = putP (togP there l) p := by simp [togP]
theorem mem_togP {there : List Pr} (h : RisesP there) (l : List Pr) : ∀ q, q ∈ togP there l ↔ lastP (there ++ l) q.1 = some q := by
  obtain ⟨n, hn⟩ : ∃ n, n = l.length := ⟨_, rfl⟩
  induction n generalizing l with
  | zero =>
    obtain rfl : l = [] := List.eq_nil_of_length_eq_zero hn.symm
    intro q
    rw [List.append_nil]
    exact (lastP_rises h).symm
  | succ n ih =>
    intro q
    have hne : l ≠ [] := fun e => by rw [e] at hn; cases hn
    obtain ⟨r, p, rfl⟩ : ∃ r p, l = r ++ [p] := ⟨_, _, (List.dropLast_concat_getLast hne).symm⟩
    have hr : n = r.length := by simp at hn; exact hn
    rw [togP_snoc, mem_putP (rises_togP h r), ih r hr q, ← List.append_assoc, lastP_snoc]
    by_cases e : p.1 = q.1
    · rw [if_pos e]
      constructor
      · rintro (rfl | ⟨_, h2⟩)
        · rfl
        · exact absurd e.symm h2
      · intro h1; exact .inl (Option.some.inj h1).symm
    · rw [if_neg e]
      constructor
      · rintro (rfl | ⟨h1, _⟩)
        · exact absurd rfl e
        · exact h1
      · intro h1; exact .inr ⟨h1, fun e2 => e e2.symm⟩
end Go.Proofs.Ytnobcdhlagfhmaa
