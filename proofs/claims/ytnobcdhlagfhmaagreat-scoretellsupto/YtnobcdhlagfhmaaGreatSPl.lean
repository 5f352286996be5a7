/- Sets as plain data: what rises, what is put in its place. -/
import Derived.Test.YtnobcdhlagfhmaaGreatIDef
import Derived.Lib.SlicesCompact
namespace Go.Proofs.YtnobcdhlagfhmaaGreat

/-- a text ahead of another -/
def lessT (a b : ByteArray) : Prop := a.data.toList < b.data.toList
theorem cmpB_lt : ∀ a b : List UInt8, Lib.compareBytes a b < 0 ↔ a < b
  | [], [] => by simp [Lib.compareBytes]
  | [], _ :: _ => by simp [Lib.compareBytes]
  | _ :: _, [] => by simp [Lib.compareBytes]
  | a :: ar, b :: br => by
    rw [Lib.compareBytes, List.cons_lt_cons_iff]
    have hne : ∀ c : UInt8, ¬ c < c := fun c h => by rw [UInt8.lt_iff_toNat_lt] at h; omega
    split
    · rename_i h
      simp [h]
    · rename_i h
      split
      · rename_i h2
        have : a ≠ b := fun e => by subst e; exact hne _ h2
        simp [h, this]
      · rename_i h2
        have e : a = b := UInt8.toNat_inj.1 (by rw [UInt8.lt_iff_toNat_lt] at h h2; omega)
        subst e
        rw [cmpB_lt ar br]
        simp [hne]
theorem cmpB_gt : ∀ a b : List UInt8, 0 < Lib.compareBytes a b ↔ b < a
  | [], [] => by simp [Lib.compareBytes]
  | [], _ :: _ => by simp [Lib.compareBytes]
  | _ :: _, [] => by simp [Lib.compareBytes]
  | a :: ar, b :: br => by
    rw [Lib.compareBytes, List.cons_lt_cons_iff]
    have hne : ∀ c : UInt8, ¬ c < c := fun c h => by rw [UInt8.lt_iff_toNat_lt] at h; omega
    split
    · rename_i h
      have h3 : ¬ b < a := fun h2 => by rw [UInt8.lt_iff_toNat_lt] at h h2; omega
      have : b ≠ a := fun e => by subst e; exact hne _ h
      simp [h3, this]
    · rename_i h
      split
      · rename_i h2
        simp [h2]
      · rename_i h2
        have e : a = b := UInt8.toNat_inj.1 (by rw [UInt8.lt_iff_toNat_lt] at h h2; omega)
        subst e
        rw [cmpB_gt ar br]
        simp [hne]
theorem listLt_or_eq {a b : List UInt8} (h : a ≤ b) : a < b ∨ a = b := by
  by_cases h2 : a < b
  · exact .inl h2
  · exact .inr (List.le_antisymm h (List.not_lt.1 h2))
theorem cmpT_lt (a b : ByteArray) : cmpT a b < 0 ↔ lessT a b := cmpB_lt _ _
theorem cmpT_gt (a b : ByteArray) : 0 < cmpT a b ↔ lessT b a := cmpB_gt _ _
theorem lessT_irrefl (a : ByteArray) : ¬ lessT a a := List.lt_irrefl _
theorem lessT_trans {a b c : ByteArray} (h : lessT a b) (h2 : lessT b c) : lessT a c := List.lt_trans h h2
theorem bytes_eq {a b : ByteArray} (h : a.data.toList = b.data.toList) : a = b := by
  cases a; cases b
  congr 1
  exact Array.toList_inj.1 h
theorem lessT_or (a b : ByteArray) : lessT a b ∨ a = b ∨ lessT b a := by
  by_cases h : lessT a b
  · exact .inl h
  by_cases h2 : lessT b a
  · exact .inr (.inr h2)
  · exact .inr (.inl (bytes_eq (List.le_antisymm (List.not_lt.1 h2) (List.not_lt.1 h))))
/-- what rises -/
def Rises (l : List ByteArray) : Prop := l.Pairwise lessT
theorem Rises.nodup {l : List ByteArray} (h : Rises l) : l.Nodup := h.imp (fun hab e => by subst e; exact lessT_irrefl _ hab)
theorem rises_unique : ∀ {l m : List ByteArray}, Rises l → Rises m → (∀ x, x ∈ l ↔ x ∈ m) → l = m
  | [], [], _, _, _ => rfl
  | [], b :: m, _, _, h => by have := (h b).2 (by simp); cases this
  | a :: l, [], _, _, h => by have := (h a).1 (by simp); cases this
  | a :: l, b :: m, hl, hm, h => by
    have hl' := List.pairwise_cons.1 hl
    have hm' := List.pairwise_cons.1 hm
    have hab : a = b := by
      have h1 := (h a).1 (by simp)
      have h2 := (h b).2 (by simp)
      rcases List.mem_cons.1 h1 with e | h1
      · exact e
      rcases List.mem_cons.1 h2 with e | h2
      · exact e.symm
      exact absurd (lessT_trans (hm'.1 a h1) (hl'.1 b h2)) (lessT_irrefl _)
    subst hab
    congr 1
    refine rises_unique hl'.2 hm'.2 (fun x => ⟨fun hx => ?_, fun hx => ?_⟩)
    · rcases List.mem_cons.1 ((h x).1 (by simp [hx])) with e | h1
      · subst e; exact absurd (hl'.1 _ hx) (lessT_irrefl _)
      · exact h1
    · rcases List.mem_cons.1 ((h x).2 (by simp [hx])) with e | h1
      · subst e; exact absurd (hm'.1 _ hx) (lessT_irrefl _)
      · exact h1
theorem rises_of_riseTo {l : List ByteArray} (h : riseTo cmpT l l.length = true) : Rises l := by
  have hadj : ∀ j, j + 1 < l.length → lessT l[j]! l[j + 1]! := fun j hj => by
    rw [riseTo, List.all_eq_true] at h
    have := h j (List.mem_range.2 (by omega))
    simp only [decide_eq_true_eq] at this
    exact (cmpT_lt _ _).1 this
  have hfar : ∀ d i, i + d + 1 < l.length → lessT l[i]! l[i + d + 1]! := fun d => by
    induction d with
    | zero => exact fun i hi => hadj i hi
    | succ d ih => exact fun i hi => lessT_trans (ih i (by omega)) (hadj (i + d + 1) (by omega))
  rw [Rises, List.pairwise_iff_getElem]
  intro i j hi hj hij
  have := hfar (j - i - 1) i (by omega)
  rw [show i + (j - i - 1) + 1 = j by omega] at this
  simpa [hi, hj] using this
theorem riseTo_of_rises {l : List ByteArray} (h : Rises l) : riseTo cmpT l l.length = true := by
  rw [riseTo, List.all_eq_true]
  intro j hj
  rw [List.mem_range] at hj
  rw [Rises, List.pairwise_iff_getElem] at h
  have h1 := h j (j + 1) (by omega) (by omega) (by omega)
  have e1 : l[j]! = l[j]'(by omega) := by simp [show j < l.length by omega]
  have e2 : l[j + 1]! = l[j + 1]'(by omega) := by simp [show j + 1 < l.length by omega]
  rw [e1, e2, decide_eq_true_eq]
  exact (cmpT_lt _ _).2 h1
/-- a text put ahead of the first one that is behind it -/
def insT : List ByteArray → ByteArray → List ByteArray
  | [], s => [s]
  | a :: r, s => if 0 < cmpT a s then s :: a :: r else a :: insT r s
theorem mem_insT {l : List ByteArray} {s x : ByteArray} : x ∈ insT l s ↔ x = s ∨ x ∈ l := by
  induction l with
  | nil => simp [insT]
  | cons a r ih =>
    rw [insT]
    split
    · simp
    · rw [List.mem_cons, ih, List.mem_cons]
      exact ⟨fun h => by rcases h with h | h | h <;> simp [h], fun h => by rcases h with h | h | h <;> simp [h]⟩
theorem rises_insT {l : List ByteArray} {s : ByteArray} (h : Rises l) (hs : s ∉ l) : Rises (insT l s) := by
  induction l with
  | nil => simp [insT, Rises]
  | cons a r ih =>
    have h' := List.pairwise_cons.1 h
    rw [insT]
    split
    · rename_i hc
      have hsa := (cmpT_gt a s).1 hc
      refine List.pairwise_cons.2 ⟨fun b hb => ?_, h⟩
      rcases List.mem_cons.1 hb with rfl | hb
      · exact hsa
      · exact lessT_trans hsa (h'.1 b hb)
    · rename_i hc
      have hsa : lessT a s := by
        rcases lessT_or a s with h1 | h1 | h1
        · exact h1
        · subst h1; exact absurd (List.mem_cons_self ..) hs
        · exact absurd ((cmpT_gt a s).2 h1) hc
      refine List.pairwise_cons.2 ⟨fun b hb => ?_, ih h'.2 (fun hx => hs (List.mem_cons_of_mem _ hx))⟩
      rcases mem_insT.1 hb with rfl | hb
      · exact hsa
      · exact h'.1 b hb
/-- .. if it is not there -/
def putT (l : List ByteArray) (s : ByteArray) : List ByteArray := if hasT l s = true then l else insT l s
theorem mem_putT {l : List ByteArray} {s x : ByteArray} : x ∈ putT l s ↔ x = s ∨ x ∈ l := by
  unfold putT
  split
  · rename_i h
    rw [hasT_iff] at h
    exact ⟨.inr, fun hx => by
      rcases hx with rfl | hx
      · exact h
      · exact hx⟩
  · exact mem_insT
theorem rises_putT {l : List ByteArray} {s : ByteArray} (h : Rises l) : Rises (putT l s) := by
  unfold putT
  split
  · exact h
  · rename_i hn
    exact rises_insT h (fun hx => hn (hasT_iff.2 hx))
theorem insT_len (l : List ByteArray) (s : ByteArray) : (insT l s).length = l.length + 1 := by
  induction l with
  | nil => rfl
  | cons a r ih =>
    rw [insT]
    split
    · rfl
    · simp [ih]
theorem putT_len (l : List ByteArray) (s : ByteArray) : l.length ≤ (putT l s).length ∧ (putT l s).length ≤ l.length + 1 := by
  unfold putT
  split
  · omega
  · rw [insT_len]; omega
/-- many of them -/
def addT (l m : List ByteArray) : List ByteArray := m.foldl putT l
theorem addT_snoc (l m : List ByteArray) (s : ByteArray) : addT l (m ++ [s]) = putT (addT l m) s := by simp [addT]
theorem mem_addT {l m : List ByteArray} {x : ByteArray} : x ∈ addT l m ↔ x ∈ l ∨ x ∈ m := by
  induction m generalizing l with
  | nil => simp [addT]
  | cons a m ih =>
    show x ∈ addT (putT l a) m ↔ _
    rw [ih, mem_putT, List.mem_cons]
    exact ⟨fun h => by rcases h with (h | h) | h <;> simp [h], fun h => by rcases h with h | h | h <;> simp [h]⟩
theorem rises_addT {l m : List ByteArray} (h : Rises l) : Rises (addT l m) := by
  induction m generalizing l with
  | nil => exact h
  | cons a m ih => exact ih (rises_putT h)
theorem addT_len (l m : List ByteArray) : l.length ≤ (addT l m).length ∧ (addT l m).length ≤ l.length + m.length := by
  induction m generalizing l with
  | nil => simp [addT]
  | cons a m ih =>
    have h1 := ih (putT l a)
    have h2 := putT_len l a
    show l.length ≤ (addT (putT l a) m).length ∧ (addT (putT l a) m).length ≤ _
    rw [List.length_cons]
    omega
/-- what is sorted, each once -/
theorem compact_sorted {zs : List (List UInt8)} (h : zs.Pairwise (fun a b => a ≤ b)) : (Lib.compact zs).Pairwise (fun a b => a < b) ∧ ∀ x, x ∈ Lib.compact zs ↔ x ∈ zs := by
  have hg : ∀ j (hj : j < zs.length), zs.toArray[j]! = zs[j] := fun j hj => by simp [hj]
  rw [List.pairwise_iff_getElem] at h
  have hin : ∀ i, ∀ hi : i < zs.length, zs[i] ∈ Lib.compact zs := fun i => by
    induction i with
    | zero =>
      intro hi
      unfold Lib.compact Lib.compactUpTo
      rw [List.mem_map]
      exact ⟨0, List.mem_filter.2 ⟨List.mem_range.2 hi, by simp [Lib.keeps]⟩, hg 0 hi⟩
    | succ i ih =>
      intro hi
      by_cases e : zs[i + 1] = zs[i]
      · rw [e]
        exact ih (by omega)
      · unfold Lib.compact Lib.compactUpTo
        rw [List.mem_map]
        refine ⟨i + 1, List.mem_filter.2 ⟨List.mem_range.2 hi, ?_⟩, hg _ hi⟩
        unfold Lib.keeps
        rw [decide_eq_true_eq, hg _ hi, show i + 1 - 1 = i by omega, hg i (by omega)]
        exact .inr e
  refine ⟨?_, fun x => ⟨fun hx => ?_, fun hx => ?_⟩⟩
  · unfold Lib.compact Lib.compactUpTo
    rw [List.pairwise_map]
    have hp : ((List.range zs.length).filter (Lib.keeps zs.toArray)).Pairwise (fun i j => i < j) := List.pairwise_lt_range.filter _
    refine hp.imp_of_mem ?_
    intro i j hi hj hij
    have hj' := List.mem_filter.1 hj
    have hjl := List.mem_range.1 hj'.1
    rw [hg i (by omega), hg j hjl]
    have hk := hj'.2
    unfold Lib.keeps at hk
    rw [decide_eq_true_eq, hg j hjl, hg (j - 1) (by omega)] at hk
    rcases hk with hk | hk
    · omega
    · have h1 : zs[i] ≤ zs[j - 1] := by
        rcases Nat.lt_or_ge i (j - 1) with h2 | h2
        · exact h i (j - 1) (by omega) (by omega) h2
        · have e : i = j - 1 := by omega
          subst e
          exact List.le_refl _
      have h2 : zs[j - 1] ≤ zs[j] := h (j - 1) j (by omega) (by omega) (by omega)
      have h3 : zs[j - 1] < zs[j] := by
        rcases listLt_or_eq h2 with h3 | h3
        · exact h3
        · exact absurd h3.symm hk
      exact List.lt_of_le_of_lt h1 h3
  · unfold Lib.compact Lib.compactUpTo at hx
    rw [List.mem_map] at hx
    obtain ⟨j, hj, rfl⟩ := hx
    have hjl := List.mem_range.1 (List.mem_filter.1 hj).1
    rw [hg j hjl]
    exact List.getElem_mem _
  · obtain ⟨i, hi, rfl⟩ := List.getElem_of_mem hx
    exact hin i hi
def bytesL (l : List ByteArray) : List (List UInt8) := l.map fun t => t.data.toList
def textsL (l : List (List UInt8)) : List ByteArray := l.map fun t => ⟨t.toArray⟩
theorem texts_bytes (l : List ByteArray) : textsL (bytesL l) = l := by
  unfold textsL bytesL
  rw [List.map_map]
  refine (List.map_congr_left (fun a _ => ?_)).trans (List.map_id l)
  cases a
  simp
theorem sorted_bytes (l : List (List UInt8)) : (l.mergeSort fun x y => decide (x ≤ y)).Pairwise (fun a b => a ≤ b) := by
  have := List.pairwise_mergeSort (le := fun x y : List UInt8 => decide (x ≤ y)) (fun a b c h1 h2 => by
    rw [decide_eq_true_eq] at *
    exact List.le_trans h1 h2) (fun a b => by
    rw [Bool.or_eq_true, decide_eq_true_eq, decide_eq_true_eq]
    exact List.le_total _ _) l
  exact this.imp (fun h => by simpa using h)
theorem mem_textsL {l : List (List UInt8)} {x : ByteArray} : x ∈ textsL l ↔ x.data.toList ∈ l := by
  unfold textsL
  rw [List.mem_map]
  constructor
  · rintro ⟨a, ha, rfl⟩
    simpa using ha
  · intro h
    refine ⟨_, h, ?_⟩
    cases x
    simp
theorem mem_bytesL {l : List ByteArray} {x : List UInt8} : x ∈ bytesL l ↔ (⟨x.toArray⟩ : ByteArray) ∈ l := by
  unfold bytesL
  rw [List.mem_map]
  constructor
  · rintro ⟨a, ha, rfl⟩
    have e : (⟨a.data.toList.toArray⟩ : ByteArray) = a := by cases a; simp
    rw [e]
    exact ha
  · intro h
    exact ⟨_, h, by simp⟩
theorem rises_textsL {l : List (List UInt8)} (h : l.Pairwise (fun a b => a < b)) : Rises (textsL l) := by
  unfold Rises textsL
  rw [List.pairwise_map]
  exact h.imp (fun h => by simpa [lessT] using h)
/-- sorted, each once: as if each were put in its place -/
theorem compact_all_is (l m : List ByteArray) (hl : Rises l) : textsL (Lib.compact ((bytesL (l ++ m)).mergeSort fun x y => decide (x ≤ y))) = addT l m := by
  obtain ⟨h1, h2⟩ := compact_sorted (sorted_bytes (bytesL (l ++ m)))
  refine rises_unique (rises_textsL h1) (rises_addT hl) (fun x => ?_)
  rw [mem_textsL, h2, List.mem_mergeSort, mem_bytesL, mem_addT]
  have e : (⟨x.data.toList.toArray⟩ : ByteArray) = x := by cases x; simp
  rw [e, List.mem_append]
/-- sorted, of things none of which is there twice -/
theorem sorted_once {l : List ByteArray} (hl : l.Nodup) : Rises (textsL ((bytesL l).mergeSort fun x y => decide (x ≤ y))) ∧ ∀ x, x ∈ textsL ((bytesL l).mergeSort fun x y => decide (x ≤ y)) ↔ x ∈ l := by
  have hnd : (bytesL l).Nodup := by
    unfold bytesL
    unfold List.Nodup
    rw [List.pairwise_map]
    exact hl.imp (fun h e => h (bytes_eq e))
  have hp := (List.mergeSort_perm (bytesL l) (fun x y => decide (x ≤ y)))
  have hnd2 := hp.nodup_iff.2 hnd
  refine ⟨rises_textsL ?_, fun x => ?_⟩
  · have := (sorted_bytes (bytesL l)).and hnd2
    exact this.imp (fun ⟨h1, h2⟩ => by
      rcases listLt_or_eq h1 with h3 | h3
      · exact h3
      · exact absurd h3 h2)
  · rw [mem_textsL, List.mem_mergeSort, mem_bytesL]
end Go.Proofs.YtnobcdhlagfhmaaGreat
