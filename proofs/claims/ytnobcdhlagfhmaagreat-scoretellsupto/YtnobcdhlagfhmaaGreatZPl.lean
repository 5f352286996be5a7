/- Scores as plain data: what was put last of each member; scores in the order of their numbers, then of their members. -/
import Derived.Test.YtnobcdhlagfhmaaGreatSPl
namespace Go.Proofs.YtnobcdhlagfhmaaGreat.Z

abbrev Sc := Int × ByteArray
/-- the order of scores -/
def lessS (a b : Sc) : Prop := a.1 < b.1 ∨ (a.1 = b.1 ∧ lessT a.2 b.2)
theorem cmpS_lt (a b : Sc) : cmpS a b < 0 ↔ lessS a b := by
  unfold cmpS lessS
  by_cases h1 : a.1 < b.1
  · simp [h1]
  · by_cases h2 : b.1 < a.1
    · have : ¬ a.1 = b.1 := by omega
      simp [h1, h2, this]
    · have : a.1 = b.1 := by omega
      rw [if_neg h1, if_neg h2, cmpT_lt]
      simp [this]
theorem lessS_irrefl (a : Sc) : ¬ lessS a a := by
  rintro (h | ⟨_, h⟩)
  · omega
  · exact lessT_irrefl _ h
theorem lessS_trans {a b c : Sc} (h : lessS a b) (h2 : lessS b c) : lessS a c := by
  rcases h with h | ⟨e, h⟩ <;> rcases h2 with h2 | ⟨e2, h2⟩
  · exact .inl (by omega)
  · exact .inl (by omega)
  · exact .inl (by omega)
  · exact .inr ⟨by omega, lessT_trans h h2⟩
theorem lessS_or (a b : Sc) : lessS a b ∨ a = b ∨ lessS b a := by
  obtain ⟨a1, a2⟩ := a
  obtain ⟨b1, b2⟩ := b
  by_cases h1 : a1 < b1
  · exact .inl (.inl h1)
  · by_cases h2 : b1 < a1
    · exact .inr (.inr (.inl h2))
    · obtain rfl : a1 = b1 := by omega
      rcases lessT_or a2 b2 with h | h | h
      · exact .inl (.inr ⟨rfl, h⟩)
      · exact .inr (.inl (by rw [h]))
      · exact .inr (.inr (.inr ⟨rfl, h⟩))
/-- the last score of a member -/
def lastS (ms : List Sc) (f : ByteArray) : Option Sc := ms.reverse.find? fun p => decide (p.2 = f)
theorem lastS_snoc (ms : List Sc) (p : Sc) (f : ByteArray) : lastS (ms ++ [p]) f = if p.2 = f then some p else lastS ms f := by
  unfold lastS
  rw [List.reverse_append, List.reverse_singleton, List.singleton_append, List.find?_cons]
  by_cases h : p.2 = f <;> simp [h]
theorem lastS_member {ms : List Sc} {f : ByteArray} {p : Sc} (h : lastS ms f = some p) : p.2 = f := by
  have := List.find?_some h
  simpa using this
theorem lastS_mem {ms : List Sc} {f : ByteArray} {p : Sc} (h : lastS ms f = some p) : p ∈ ms := by
  have := List.mem_of_find?_eq_some h
  simpa using this
theorem lastS_some {ms : List Sc} {p : Sc} (h : p ∈ ms) : ∃ q, lastS ms p.2 = some q := by
  unfold lastS
  cases hf : ms.reverse.find? fun q => decide (q.2 = p.2) with
  | some q => exact ⟨q, rfl⟩
  | none =>
    have := List.find?_eq_none.1 hf p (by simpa using h)
    simp at this
def RisesS (l : List Sc) : Prop := l.Pairwise lessS
/-- no member is there twice -/
def OnceS (l : List Sc) : Prop := ∀ p ∈ l, ∀ q ∈ l, p.2 = q.2 → p = q
theorem lastS_once {l : List Sc} (h : OnceS l) {p : Sc} : lastS l p.2 = some p ↔ p ∈ l := by
  constructor
  · exact lastS_mem
  · intro hp
    obtain ⟨q, hq⟩ := lastS_some hp
    rw [hq, h p hp q (lastS_mem hq) (lastS_member hq).symm]
/-- two that rise and have the same members are one -/
theorem risesS_unique : ∀ {l m : List Sc}, RisesS l → RisesS m → (∀ x, x ∈ l ↔ x ∈ m) → l = m
  | [], [], _, _, _ => rfl
  | [], b :: m, _, _, h => by have := (h b).2 (by simp); cases this
  | a :: l, [], _, _, h => by have := (h a).1 (by simp); cases this
  | a :: l, b :: m, hl, hm, h => by
    have hl' := List.pairwise_cons.1 hl
    have hm' := List.pairwise_cons.1 hm
    have hab : a = b := by
      have h1 := (h a).1 (by simp)
      have h2 := (h b).2 (by simp)
      rcases List.mem_cons.1 h1 with e | h1
      · exact e
      rcases List.mem_cons.1 h2 with e | h2
      · exact e.symm
      exact absurd (lessS_trans (hm'.1 a h1) (hl'.1 b h2)) (lessS_irrefl _)
    subst hab
    congr 1
    refine risesS_unique hl'.2 hm'.2 (fun x => ⟨fun hx => ?_, fun hx => ?_⟩)
    · rcases List.mem_cons.1 ((h x).1 (by simp [hx])) with e | h1
      · subst e; exact absurd (hl'.1 _ hx) (lessS_irrefl _)
      · exact h1
    · rcases List.mem_cons.1 ((h x).2 (by simp [hx])) with e | h1
      · subst e; exact absurd (hm'.1 _ hx) (lessS_irrefl _)
      · exact h1
/-- a score laid in its place -/
def insS : List Sc → Sc → List Sc
  | [], p => [p]
  | a :: r, p => if cmpS p a < 0 then p :: a :: r else a :: insS r p
theorem mem_insS {l : List Sc} {p q : Sc} : q ∈ insS l p ↔ q = p ∨ q ∈ l := by
  induction l with
  | nil => simp [insS]
  | cons a r ih =>
    rw [insS]
    split
    · simp
    · rw [List.mem_cons, ih, List.mem_cons]
      constructor
      · rintro (h | h | h)
        · exact .inr (.inl h)
        · exact .inl h
        · exact .inr (.inr h)
      · rintro (h | h | h)
        · exact .inr (.inl h)
        · exact .inl h
        · exact .inr (.inr h)
theorem insS_len (l : List Sc) (p : Sc) : (insS l p).length = l.length + 1 := by
  induction l with
  | nil => rfl
  | cons a r ih =>
    rw [insS]
    split
    · rfl
    · simp [ih]
theorem rises_insS {l : List Sc} (h : RisesS l) {p : Sc} (hn : p ∉ l) : RisesS (insS l p) := by
  induction l with
  | nil => simp [insS, RisesS]
  | cons a r ih =>
    have h' := List.pairwise_cons.1 h
    rw [insS]
    split
    · rename_i hc
      have hlt := (cmpS_lt _ _).1 hc
      refine List.pairwise_cons.2 ⟨fun q hq => ?_, h⟩
      rcases List.mem_cons.1 hq with rfl | h1
      · exact hlt
      · exact lessS_trans hlt (h'.1 q h1)
    · rename_i hc
      refine List.pairwise_cons.2 ⟨fun q hq => ?_, ih h'.2 (fun h2 => hn (by simp [h2]))⟩
      rcases mem_insS.1 hq with rfl | h1
      · rcases lessS_or a q with h2 | h2 | h2
        · exact h2
        · exact absurd (h2 ▸ List.mem_cons_self) hn
        · exact absurd ((cmpS_lt _ _).2 h2) hc
      · exact h'.1 q h1
/-- all but those of a member -/
def lessM (l : List Sc) (m : ByteArray) : List Sc := l.filter fun q => !decide (q.2 = m)
theorem mem_lessM {l : List Sc} {m : ByteArray} {q : Sc} : q ∈ lessM l m ↔ q ∈ l ∧ q.2 ≠ m := by simp [lessM]
theorem lessM_len (l : List Sc) (m : ByteArray) : (lessM l m).length ≤ l.length := List.length_filter_le _ _
def putS (l : List Sc) (p : Sc) : List Sc := insS (lessM l p.2) p
theorem mem_putS {l : List Sc} {p q : Sc} : q ∈ putS l p ↔ q = p ∨ (q ∈ l ∧ q.2 ≠ p.2) := by rw [putS, mem_insS, mem_lessM]
theorem rises_putS {l : List Sc} (h : RisesS l) (p : Sc) : RisesS (putS l p) :=
  rises_insS (List.Pairwise.sublist List.filter_sublist h) (fun hm => (mem_lessM.1 hm).2 rfl)
theorem putS_len (l : List Sc) (p : Sc) : (putS l p).length ≤ l.length + 1 := by
  rw [putS, insS_len]
  have := lessM_len l p.2
  omega
def togS (there l : List Sc) : List Sc := l.foldl putS there
theorem togS_snoc (there l : List Sc) (p : Sc) : togS there (l ++ [p]) = putS (togS there l) p := by simp [togS]
theorem rises_togS {there : List Sc} (h : RisesS there) (l : List Sc) : RisesS (togS there l) := by
  induction l generalizing there with
  | nil => exact h
  | cons p r ih => exact ih (rises_putS h p)
theorem togS_len (there l : List Sc) : (togS there l).length ≤ there.length + l.length := by
  induction l generalizing there with
  | nil => simp [togS]
  | cons p r ih =>
    have h1 := ih (there := putS there p)
    have h2 := putS_len there p
    have e : togS there (p :: r) = togS (putS there p) r := rfl
    rw [e, List.length_cons]
    omega
theorem mem_togS {there : List Sc} (h : OnceS there) (l : List Sc) : ∀ q, q ∈ togS there l ↔ lastS (there ++ l) q.2 = some q := by
  obtain ⟨n, hn⟩ : ∃ n, n = l.length := ⟨_, rfl⟩
  induction n generalizing l with
  | zero =>
    obtain rfl : l = [] := List.eq_nil_of_length_eq_zero hn.symm
    intro q
    rw [List.append_nil]
    exact (lastS_once h).symm
  | succ n ih =>
    intro q
    have hne : l ≠ [] := fun e => by rw [e] at hn; cases hn
    obtain ⟨r, p, rfl⟩ : ∃ r p, l = r ++ [p] := ⟨_, _, (List.dropLast_concat_getLast hne).symm⟩
    have hr : n = r.length := by simp at hn; exact hn
    rw [togS_snoc, mem_putS, ih r hr q, ← List.append_assoc, lastS_snoc]
    by_cases e : p.2 = q.2
    · rw [if_pos e]
      constructor
      · rintro (rfl | ⟨_, h2⟩)
        · rfl
        · exact absurd e.symm h2
      · intro h1; exact .inl (Option.some.inj h1).symm
    · rw [if_neg e]
      constructor
      · rintro (rfl | ⟨h1, _⟩)
        · exact absurd rfl e
        · exact h1
      · intro h1; exact .inr ⟨h1, fun e2 => e e2.symm⟩
theorem once_togS {there : List Sc} (h : OnceS there) (l : List Sc) : OnceS (togS there l) := fun p hp q hq e => by
  have h1 := (mem_togS h l p).1 hp
  have h2 := (mem_togS h l q).1 hq
  rw [e, h2] at h1
  exact (Option.some.inj h1).symm
end Go.Proofs.YtnobcdhlagfhmaaGreat.Z
