/- Part 5 of what the proof leans on: YPl, YTel, EKee, ECpy, EKee2. -/
import Derived.Test.YtmaancidkpfopaaGreatDoorPart1
import Derived.Test.YtmaancidkpfopaaGreatDoorPart2
import Derived.Test.YtmaancidkpfopaaGreatDoorPart4
import Derived.Handy
import Derived.Deep.RegionHeld3
import Derived.BigQuiet
import Derived.Test.YtmaancidkpfopaaGreatDoorPart3
import Derived.Lib.AppendZeros
import Derived.Laws.OwnMore
/- Spaces as plain data: what is got, what is put, what goes. -/
namespace Go.Proofs.YtmaancidkpfopaaGreatDoor
open Go.RowKit

theorem chkFrom_of : ∀ (p : Option ByteArray) (s : List Ent), (∀ x ∈ s, chkE x = 0) → (s.Pairwise fun a b => lessT a.key b.key) → (∀ k, p = some k → ∀ x ∈ s, lessT k x.key) → chkFrom p s = 0
  | _, [], _, _, _ => by simp [chkFrom]
  | p, e :: r, h, hp, hk => by
    rw [chkFrom, if_neg (by simp [h e (by simp)]), if_pos (by
      cases p with
      | none => rfl
      | some k => exact decide_eq_true (hk k rfl e (by simp)))]
    have hp' := List.pairwise_cons.1 hp
    exact chkFrom_of (some e.key) r (fun x hx => h x (by simp [hx])) hp'.2 (fun k hk x hx => by injection hk with hk; subst hk; exact hp'.1 x hx)
theorem chkSp_of {s : List Ent} (h : SpRight s) : chkSp s = 0 := by
  unfold chkSp
  rw [if_neg (by have := h.n; omega)]
  exact chkFrom_of none s h.e h.r (fun k hk => by cases hk)
theorem chkSp_chkAt {s : List Ent} {now : Int} (h : chkAt s now = 0) : chkSp s = 0 ∧ timeT now = true := by
  unfold chkAt at h
  by_cases h1 : chkSp s = 0
  · rw [if_neg (by simp [h1])] at h
    refine ⟨h1, ?_⟩
    cases ht : timeT now
    · rw [ht] at h; simp at h
    · rfl
  · rw [if_pos h1] at h; exact absurd h h1
theorem chkAt_chkKey {s : List Ent} {now : Int} {key : ByteArray} (h : chkKey s now key = 0) : chkAt s now = 0 ∧ longT key = false := by
  unfold chkKey at h
  by_cases h1 : chkAt s now = 0
  · rw [if_neg (by simp [h1])] at h
    refine ⟨h1, ?_⟩
    cases ht : longT key
    · rfl
    · rw [ht] at h; simp at h
  · rw [if_pos h1] at h; exact absurd h h1
theorem chkKey_of {s : List Ent} {now : Int} {key : ByteArray} (h : SpRight s) (ht : timeT now = true) (hk : longT key = false) : chkKey s now key = 0 := by
  unfold chkKey chkAt
  rw [chkSp_of h, ht, hk]
  simp
theorem SpRight.filter {s : List Ent} (h : SpRight s) (p : Ent → Bool) : SpRight (s.filter p) :=
  ⟨Nat.le_trans (List.length_filter_le _ _) h.n, fun x hx => h.e x (List.mem_filter.1 hx).1, h.r.filter _⟩
theorem SpRight.one {s : List Ent} (h : SpRight s) {x y : Ent} (hx : x ∈ s) (hy : y ∈ s) (e : x.key = y.key) : x = y := by
  obtain ⟨i, hi, rfl⟩ := List.getElem_of_mem hx
  obtain ⟨j, hj, rfl⟩ := List.getElem_of_mem hy
  have hp := List.pairwise_iff_getElem.1 h.r
  rcases Nat.lt_trichotomy i j with h1 | h1 | h1
  · exact absurd (hp i j hi hj h1) (by rw [e]; exact lessT_irrefl _)
  · subst h1; rfl
  · exact absurd (hp j i hj hi h1) (by rw [e]; exact lessT_irrefl _)
/-- the entry of a key that is there -/
def lookE (s : List Ent) (now : Int) (key : ByteArray) : Option Ent := s.find? (thereE key now)
def itemO : Option Ent → Itm
  | some x => x.item
  | none => Itm.none
def tilO : Option Ent → Int
  | some x => x.til
  | none => 0
def errO : Option Ent → Int
  | some _ => 0
  | none => 5
theorem there_key {key : ByteArray} {now : Int} {x : Ent} (h : thereE key now x = true) : x.key = key ∧ goneE x now = false := by
  unfold thereE at h
  simpa using h
theorem there_of {key : ByteArray} {now : Int} {x : Ent} (h : x.key = key) (h2 : goneE x now = false) : thereE key now x = true := by
  unfold thereE
  simp [h, h2]
theorem look_mem {s : List Ent} {now : Int} {key : ByteArray} {x : Ent} (hr : SpRight s) (hx : x ∈ s) (ht : thereE key now x = true) : lookE s now key = some x := by
  unfold lookE
  cases hf : s.find? (thereE key now) with
  | none => exact absurd ht (by have := List.find?_eq_none.1 hf x hx; simpa using this)
  | some y =>
    have h1 := List.mem_of_find?_eq_some hf
    have h2 := List.find?_some hf
    rw [hr.one h1 hx ((there_key h2).1.trans (there_key ht).1.symm)]
theorem look_none {s : List Ent} {now : Int} {key : ByteArray} (h : ∀ x ∈ s, thereE key now x = false) : lookE s now key = none := by
  unfold lookE
  exact List.find?_eq_none.2 (fun x hx => by simp [h x hx])
theorem look_some {s : List Ent} {now : Int} {key : ByteArray} {x : Ent} (h : lookE s now key = some x) : x ∈ s ∧ thereE key now x = true := ⟨List.mem_of_find?_eq_some h, List.find?_some h⟩
theorem look_no {s : List Ent} {now : Int} {key : ByteArray} (h : lookE s now key = none) : ∀ x ∈ s, thereE key now x = false := fun x hx => by
  have := List.find?_eq_none.1 h x hx
  simpa using this
theorem isNone_eq {x : Itm} (h : x.isNone = true) : x = Itm.none := by
  unfold Itm.isNone at h
  rw [decide_eq_true_eq] at h
  obtain ⟨h1, h2, h3, h4, h5⟩ := h
  obtain ⟨k, t, l, p, s⟩ := x
  simp only at h1 h2 h3 h4 h5
  subst h1; subst h3; subst h4; subst h5
  have : t = ⟨#[]⟩ := bytes_eq (by rw [← ByteArray.toList_eq, h2])
  subst this
  rfl
theorem right_notNone {x : Itm} (h : chkI x = 0) : x.isNone = false := by
  cases hn : x.isNone
  · rfl
  · have hx := isNone_eq hn
    subst hx
    exact absurd h (by decide +kernel)
theorem item_right {s : List Ent} (h : SpRight s) (now : Int) (key : ByteArray) : rightI (itemO (lookE s now key)) = 0 := by
  cases hl : lookE s now key with
  | none => exact none_rightI
  | some x => exact chk_rightI (chkE_right (h.e x (look_some hl).1)).2.1
/-- an entry put in its place -/
def insS (s : List Ent) (e : Ent) : List Ent := s.takeWhile (fun x => decide (lessT x.key e.key)) ++ e :: s.dropWhile (fun x => decide (lessT x.key e.key))
theorem takeWhile_of {α : Type} {p : α → Bool} : ∀ {A B : List α}, (∀ x ∈ A, p x = true) → (∀ x ∈ B, p x = false) → (A ++ B).takeWhile p = A ∧ (A ++ B).dropWhile p = B
  | [], [], _, _ => by simp
  | [], b :: B, _, h => by simp [h b (by simp)]
  | a :: A, B, h, h2 => by
    obtain ⟨e1, e2⟩ := takeWhile_of (A := A) (B := B) (fun x hx => h x (by simp [hx])) h2
    simp [h a (by simp), e1, e2]
theorem PutAt.eq {s r : List Ent} {e : Ent} (h : PutAt s e r) : r = insS s e := by
  obtain ⟨⟨k, hk, rfl, h1, h2⟩⟩ := h
  obtain ⟨e1, e2⟩ := takeWhile_of (p := fun x : Ent => decide (lessT x.key e.key)) (A := s.take k) (B := s.drop k) (fun x hx => decide_eq_true (h1 x hx)) (fun x hx => decide_eq_false (h2 x hx))
  rw [List.take_append_drop] at e1 e2
  rw [insS, e1, e2]
theorem insS_mem {s : List Ent} {e z : Ent} : z ∈ insS s e ↔ z = e ∨ z ∈ s := by
  unfold insS
  rw [List.mem_append, List.mem_cons]
  constructor
  · rintro (h | h | h)
    · exact .inr ((List.takeWhile_sublist _).subset h)
    · exact .inl h
    · exact .inr ((List.dropWhile_sublist _).subset h)
  · rintro (h | h)
    · exact .inr (.inl h)
    · rw [← List.takeWhile_append_dropWhile (p := fun x : Ent => decide (lessT x.key e.key)) (l := s)] at h
      rcases List.mem_append.1 h with h | h
      · exact .inl h
      · exact .inr (.inr h)
theorem insS_len (s : List Ent) (e : Ent) : (insS s e).length = s.length + 1 := by
  unfold insS
  have := congrArg List.length (List.takeWhile_append_dropWhile (p := fun x : Ent => decide (lessT x.key e.key)) (l := s))
  rw [List.length_append] at this
  rw [List.length_append, List.length_cons]
  omega
theorem mem_takeWhile_p {α : Type} {p : α → Bool} : ∀ {l : List α} {x : α}, x ∈ l.takeWhile p → p x = true
  | [], _, h => by simp at h
  | a :: l, x, h => by
    rw [List.takeWhile_cons] at h
    split at h
    · rename_i hp
      rcases List.mem_cons.1 h with rfl | h
      · exact hp
      · exact mem_takeWhile_p h
    · simp at h
theorem insS_right {s : List Ent} {e : Ent} (h : SpRight s) (hn : s.length < 16) (he : chkE e = 0) (hk : ∀ x ∈ s, x.key ≠ e.key) : SpRight (insS s e) := by
  refine ⟨by rw [insS_len]; omega, fun x hx => ?_, ?_⟩
  · rcases insS_mem.1 hx with rfl | hx
    · exact he
    · exact h.e x hx
  · unfold insS
    have hsp := List.takeWhile_append_dropWhile (p := fun x : Ent => decide (lessT x.key e.key)) (l := s)
    have hr := h.r
    rw [← hsp, List.pairwise_append] at hr
    obtain ⟨r1, r2, r3⟩ := hr
    have hdrop : ∀ x ∈ s.dropWhile (fun x => decide (lessT x.key e.key)), lessT e.key x.key := by
      intro x hx
      cases hd : s.dropWhile (fun x => decide (lessT x.key e.key)) with
      | nil => rw [hd] at hx; cases hx
      | cons b B =>
        have hb : ¬ lessT b.key e.key := by
          have := List.head?_dropWhile_not (fun x : Ent => decide (lessT x.key e.key)) s
          rw [hd] at this
          simpa using this
        have hbs : b ∈ s := (List.dropWhile_sublist (fun x : Ent => decide (lessT x.key e.key))).subset (by rw [hd]; simp)
        have hbe : lessT e.key b.key := by
          rcases lessT_or b.key e.key with h1 | h1 | h1
          · exact absurd h1 hb
          · exact absurd h1 (hk b hbs)
          · exact h1
        rw [hd] at hx r2
        rcases List.mem_cons.1 hx with rfl | hx
        · exact hbe
        · exact lessT_trans hbe ((List.pairwise_cons.1 r2).1 x hx)
    refine List.pairwise_append.2 ⟨r1, List.pairwise_cons.2 ⟨hdrop, r2⟩, fun a ha b hb => ?_⟩
    rcases List.mem_cons.1 hb with rfl | hb
    · have := mem_takeWhile_p ha
      simpa using this
    · exact r3 a ha b hb
/-- what is wrong with what is put, in the end -/
def putE (s : List Ent) (now : Int) (key : ByteArray) (x : Itm) (til : Int) : Int :=
  if putErr s now key x til ≠ 0 then putErr s now key x til else if x.isNone = true then 0 else if 16 ≤ (roomE (othersE s key) now).length then 2 else 0
/-- the space then -/
def putS (s : List Ent) (now : Int) (key : ByteArray) (x : Itm) (til : Int) : List Ent :=
  if putErr s now key x til ≠ 0 then [] else if x.isNone = true then othersE s key else if 16 ≤ (roomE (othersE s key) now).length then [] else insS (roomE (othersE s key) now) ⟨key, x, til⟩
theorem putErr_zero {s : List Ent} {now : Int} {key : ByteArray} {x : Itm} {til : Int} (h : putErr s now key x til = 0) : chkKey s now key = 0 ∧ rightI x = 0 ∧ tilBad now til = false := by
  unfold putErr at h
  by_cases h1 : chkKey s now key = 0
  · rw [if_neg (by simp [h1])] at h
    by_cases h2 : rightI x = 0
    · rw [if_neg (by simp [h2])] at h
      refine ⟨h1, h2, ?_⟩
      cases ht : tilBad now til
      · rfl
      · rw [ht] at h; simp at h
    · rw [if_pos h2] at h; exact absurd h h2
  · rw [if_pos h1] at h; exact absurd h h1
theorem putE_err {s : List Ent} {now : Int} {key : ByteArray} {x : Itm} {til : Int} (h : putE s now key x til = 0) : putErr s now key x til = 0 := by
  unfold putE at h
  by_cases h1 : putErr s now key x til = 0
  · exact h1
  · rw [if_pos h1] at h; exact absurd h h1
theorem putS_err {s : List Ent} {now : Int} {key : ByteArray} {x : Itm} {til : Int} (h : putE s now key x til ≠ 0) : putS s now key x til = [] := by
  unfold putE at h
  unfold putS
  split
  · rfl
  · rename_i h1
    rw [if_neg h1] at h
    split
    · rename_i h2
      rw [if_pos h2] at h; exact absurd rfl h
    · rename_i h2
      rw [if_neg h2] at h
      split
      · rfl
      · rename_i h3
        rw [if_neg h3] at h; exact absurd rfl h
/-- what is put, where there is no error -/
structure PutOk (s : List Ent) (now : Int) (key : ByteArray) (x : Itm) (til : Int) : Prop where
  err : putErr s now key x til = 0
  chk : chkKey s now key = 0
  rx : rightI x = 0
  tb : tilBad now til = false
  sp : SpRight s
  tm : 0 ≤ now ∧ now ≤ 1000000
  kl : longT key = false
  put : (x.isNone = true ∧ putS s now key x til = othersE s key) ∨ (chkI x = 0 ∧ (roomE (othersE s key) now).length < 16 ∧ putS s now key x til = insS (roomE (othersE s key) now) ⟨key, x, til⟩)
theorem timeT_iff {n : Int} : timeT n = true ↔ 0 ≤ n ∧ n ≤ 1000000 := by unfold timeT; simp
theorem putOk {s : List Ent} {now : Int} {key : ByteArray} {x : Itm} {til : Int} (h : putE s now key x til = 0) : PutOk s now key x til := by
  have he := putE_err h
  obtain ⟨h1, h2, h3⟩ := putErr_zero he
  obtain ⟨h4, h5⟩ := chkAt_chkKey h1
  obtain ⟨h6, h7⟩ := chkSp_chkAt h4
  refine ⟨he, h1, h2, h3, spRight h6, timeT_iff.1 h7, h5, ?_⟩
  unfold putE at h
  unfold putS
  rw [if_neg (by simp [he])] at h ⊢
  cases hn : x.isNone with
  | true => exact .inl ⟨rfl, by rw [if_pos rfl]⟩
  | false =>
    rw [hn, if_neg (by decide)] at h
    rw [if_neg (by decide)]
    have hc : chkI x = 0 := by unfold rightI at h2; rwa [hn, if_neg (by decide)] at h2
    by_cases h8 : 16 ≤ (roomE (othersE s key) now).length
    · rw [if_pos h8] at h; cases h
    · rw [if_neg h8]
      exact .inr ⟨hc, by omega, rfl⟩
theorem othersE_right {s : List Ent} (h : SpRight s) (key : ByteArray) : SpRight (othersE s key) := h.filter _
theorem roomE_right {s : List Ent} (h : SpRight s) (now : Int) : SpRight (roomE s now) := by
  unfold roomE
  split
  · exact h.filter _
  · exact h
theorem othersE_mem {s : List Ent} {key : ByteArray} {x : Ent} : x ∈ othersE s key ↔ x ∈ s ∧ x.key ≠ key := by simp [othersE, List.mem_filter]
theorem roomE_mem {s : List Ent} {now : Int} {x : Ent} (h : x ∈ roomE s now) : x ∈ s := by
  unfold roomE at h
  split at h
  · exact (List.mem_filter.1 h).1
  · exact h
theorem roomE_there {s : List Ent} {now : Int} {x : Ent} (h : x ∈ s) (hg : goneE x now = false) : x ∈ roomE s now := by
  unfold roomE
  split
  · exact List.mem_filter.2 ⟨h, by simp [hg]⟩
  · exact h
theorem PutOk.ent {s : List Ent} {now : Int} {key : ByteArray} {x : Itm} {til : Int} (h : PutOk s now key x til) (hc : chkI x = 0) : chkE ⟨key, x, til⟩ = 0 := by
  have ht : timeT til = true := by
    have h1 := h.tb
    unfold tilBad at h1
    rw [decide_eq_false_iff_not] at h1
    have h2 := h.tm
    rw [timeT_iff]
    by_cases h0 : til = 0
    · omega
    · omega
  unfold chkE
  rw [if_neg (by simp [h.kl]), if_neg (by simp [hc]), if_pos ht]
theorem PutOk.right {s : List Ent} {now : Int} {key : ByteArray} {x : Itm} {til : Int} (h : PutOk s now key x til) : SpRight (putS s now key x til) := by
  rcases h.put with ⟨_, e⟩ | ⟨hc, hn, e⟩
  · rw [e]; exact othersE_right h.sp key
  · rw [e]
    exact insS_right (roomE_right (othersE_right h.sp key) now) hn (h.ent hc) (fun y hy => (othersE_mem.1 (roomE_mem hy)).2)
theorem PutOk.notGone {s : List Ent} {now : Int} {key : ByteArray} {x : Itm} {til : Int} (h : PutOk s now key x til) : goneE ⟨key, x, til⟩ now = false := by
  have h1 := h.tb
  unfold tilBad at h1
  rw [decide_eq_false_iff_not] at h1
  unfold goneE
  rw [decide_eq_false_iff_not]
  simp only
  omega
/-- what was put last is got -/
theorem PutOk.own {s : List Ent} {now : Int} {key : ByteArray} {x : Itm} {til : Int} (h : PutOk s now key x til) : itemO (lookE (putS s now key x til) now key) = x := by
  rcases h.put with ⟨hn, e⟩ | ⟨hc, hn, e⟩
  · rw [e, look_none (fun y hy => by
      have := (othersE_mem.1 hy).2
      unfold thereE; simp [this])]
    exact (isNone_eq hn).symm
  · have := look_mem (now := now) (key := key) h.right (x := ⟨key, x, til⟩) (by rw [e]; exact insS_mem.2 (.inl rfl)) (there_of rfl h.notGone)
    rw [this]; rfl
/-- .. and later, if it is not gone -/
theorem PutOk.later {s : List Ent} {now : Int} {key : ByteArray} {x : Itm} {til : Int} (h : PutOk s now key x til) (late : Int) :
    itemO (lookE (putS s now key x til) late key) = x ∨ (til ≠ 0 ∧ itemO (lookE (putS s now key x til) late key) = Itm.none) := by
  rcases h.put with ⟨hn, e⟩ | ⟨hc, hn, e⟩
  · rw [e, look_none (fun y hy => by
      have := (othersE_mem.1 hy).2
      unfold thereE; simp [this])]
    exact .inl (isNone_eq hn).symm
  · have hm : (⟨key, x, til⟩ : Ent) ∈ putS s now key x til := by rw [e]; exact insS_mem.2 (.inl rfl)
    cases hg : goneE ⟨key, x, til⟩ late with
    | false =>
      have := look_mem (now := late) (key := key) h.right hm (there_of rfl hg)
      rw [this]; exact .inl rfl
    | true =>
      have h0 : til ≠ 0 := by
        unfold goneE at hg
        rw [decide_eq_true_eq] at hg
        exact hg.1
      refine .inr ⟨h0, ?_⟩
      rw [look_none (fun y hy => ?_)]
      · rfl
      · cases ht : thereE key late y with
        | false => rfl
        | true =>
          obtain ⟨k1, k2⟩ := there_key ht
          have := h.right.one hy hm k1
          subst this
          rw [hg] at k2; cases k2
/-- nothing else is other -/
theorem PutOk.other {s : List Ent} {now : Int} {key other : ByteArray} {x : Itm} {til : Int} (h : PutOk s now key x til) (hne : other ≠ key) : lookE (putS s now key x til) now other = lookE s now other := by
  cases hl : lookE s now other with
  | some y =>
    obtain ⟨h1, h2⟩ := look_some hl
    obtain ⟨h3, h4⟩ := there_key h2
    refine look_mem h.right ?_ h2
    have h5 : y ∈ othersE s key := othersE_mem.2 ⟨h1, by rw [h3]; exact hne⟩
    rcases h.put with ⟨_, e⟩ | ⟨hc, hn, e⟩
    · rw [e]; exact h5
    · rw [e]; exact insS_mem.2 (.inr (roomE_there h5 h4))
  | none =>
    have h1 := look_no hl
    refine look_none (fun y hy => ?_)
    rcases h.put with ⟨_, e⟩ | ⟨hc, hn, e⟩
    · rw [e] at hy; exact h1 y (othersE_mem.1 hy).1
    · rw [e] at hy
      rcases insS_mem.1 hy with rfl | hy
      · unfold thereE; simp [Ne.symm hne]
      · exact h1 y (othersE_mem.1 (roomE_mem hy)).1
/-- what is left of a sweep -/
def sweepS (s : List Ent) (now : Int) : List Ent := s.filter fun x => !goneE x now
theorem gone_later {x : Ent} {now late : Int} (h : goneE x now = true) (hl : now ≤ late) : goneE x late = true := by
  unfold goneE at h ⊢
  rw [decide_eq_true_eq] at h ⊢
  omega
theorem sweep_look {s : List Ent} {now late : Int} (h : SpRight s) (hl : now ≤ late) (key : ByteArray) : lookE (sweepS s now) late key = lookE s late key := by
  cases hk : lookE s late key with
  | some y =>
    obtain ⟨h1, h2⟩ := look_some hk
    obtain ⟨h3, h4⟩ := there_key h2
    refine look_mem (h.filter _) (List.mem_filter.2 ⟨h1, ?_⟩) h2
    cases hg : goneE y now
    · rfl
    · rw [gone_later hg hl] at h4; cases h4
  | none =>
    have h1 := look_no hk
    exact look_none (fun y hy => h1 y (List.mem_filter.1 hy).1)
theorem sweep_twice (s : List Ent) (now : Int) : sweepS (sweepS s now) now = sweepS s now := by
  unfold sweepS
  rw [List.filter_filter]
  simp
end Go.Proofs.YtmaancidkpfopaaGreatDoor

/- What the calls of spaces answer, in one form each. -/
namespace Go.Proofs.YtmaancidkpfopaaGreatDoor
open Go.RowKit

/-- the item that is got -/
def getR (s : List Ent) (now : Int) (key : ByteArray) : Itm := if chkKey s now key = 0 then itemO (lookE s now key) else Itm.none
theorem OwnItem.nothing (B : Nat) (w : World) : OwnItem B w (.agg #[.int .i64 0, .string ⟨#[]⟩, .slice none 0 0, .slice none 0 0, .slice none 0 0]) Itm.none :=
  ⟨none, 0, none, 0, none, 0, rfl, World.ownsRow_nil _ _ _ _, World.ownsRow_nil _ _ _ _, World.ownsRow_nil _ _ _ _⟩
theorem fits_key {s : List Ent} {now : Int} {key : ByteArray} (h : chkKey s now key = 0) : ∀ x ∈ s, Fits x.item := fits_sp (chkSp_chkAt (chkAt_chkKey h).1).1
theorem get_tells (a : Option Addr) (c : Nat) (s : List Ent) (now : Int) (key : ByteArray) (w : World) (hs : SpaceAt w a s) (hn : s.length ≤ 281474976710656) :
    Calls Tryz.prog 217 #[.slice a s.length c, .int .i64 now, .string key] w fun e w' => (∃ v, e = .returned (.tuple #[v, .int .i64 (chkKey s now key)]) ∧ OwnItem w.heap.size w' v (getR s now key)) ∧ Below w.heap.size w w' := by
  refine (get_any a c s now key w hs hn fits_key).mono ?_
  rintro e w' ⟨⟨h0, rfl⟩ | ⟨h0, v, y, rfl, ho, hy⟩, hb⟩
  · unfold getR
    rw [if_neg h0]
    exact ⟨⟨_, rfl, OwnItem.nothing _ _⟩, hb⟩
  · unfold getR
    rw [if_pos h0]
    refine ⟨⟨v, by rw [h0], ?_⟩, hb⟩
    rcases hy with ⟨x, hx, ht, rfl⟩ | ⟨rfl, hx⟩
    · rw [look_mem (spRight (chkSp_chkAt (chkAt_chkKey h0).1).1) hx ht]; exact ho
    · rw [look_none hx]; exact ho
theorem getR_right (s : List Ent) (now : Int) (key : ByteArray) : rightI (getR s now key) = 0 := by
  unfold getR
  split
  · rename_i h
    exact item_right (spRight (chkSp_chkAt (chkAt_chkKey h).1).1) now key
  · exact none_rightI
/-- until when -/
def untilR (s : List Ent) (now : Int) (key : ByteArray) : Int := if chkKey s now key = 0 then tilO (lookE s now key) else 0
def untilE (s : List Ent) (now : Int) (key : ByteArray) : Int := if chkKey s now key = 0 then errO (lookE s now key) else chkKey s now key
theorem until_tells (a : Option Addr) (c : Nat) (s : List Ent) (now : Int) (key : ByteArray) (w : World) (hs : SpaceAt w a s) (hn : s.length ≤ 281474976710656) :
    Calls Tryz.prog 220 #[.slice a s.length c, .int .i64 now, .string key] w fun e w' => e = .returned (.tuple #[.int .i64 (untilR s now key), .int .i64 (untilE s now key)]) ∧ Below w.heap.size w w' := by
  refine (until_any a c s now key w hs hn).mono ?_
  rintro e w' ⟨⟨h0, rfl⟩ | ⟨h0, hy⟩, hb⟩
  · unfold untilR untilE
    rw [if_neg h0, if_neg h0]
    exact ⟨rfl, hb⟩
  · unfold untilR untilE
    rw [if_pos h0, if_pos h0]
    rcases hy with ⟨x, hx, ht, rfl⟩ | ⟨rfl, hx⟩
    · rw [look_mem (spRight (chkSp_chkAt (chkAt_chkKey h0).1).1) hx ht]; exact ⟨rfl, hb⟩
    · rw [look_none hx]; exact ⟨rfl, hb⟩
theorem put_tells (a : Option Addr) (c : Nat) (s : List Ent) (now : Int) (key : ByteArray) (v : Value) (x : Itm) (til : Int) (w : World) (hs : SpaceAt w a s) (hn : s.length ≤ 281474976710656) (hx : ItemIs w v x) :
    Calls Tryz.prog 161 #[.slice a s.length c, .int .i64 now, .string key, v, .int .i64 til] w fun e w' => (∃ ao co l, e = .returned (.tuple #[.slice ao (putS s now key x til).length co, .int .i64 (putE s now key x til)]) ∧ l.map Prod.fst = putS s now key x til ∧ OwnSp w.heap.size w' (.slice ao (putS s now key x til).length co) l) ∧ Below w.heap.size w w' := by
  refine (put_any a c s now key v x til w hs hn hx).mono ?_
  rintro e w' ⟨h, hb⟩
  have hfin : ∀ (V : Value) (l : List (Ent × Sls)) (E : Int), e = .returned (.tuple #[V, .int .i64 E]) → putE s now key x til = E → l.map Prod.fst = putS s now key x til → OwnSp w.heap.size w' V l →
      (∃ ao co l, e = .returned (.tuple #[.slice ao (putS s now key x til).length co, .int .i64 (putE s now key x til)]) ∧ l.map Prod.fst = putS s now key x til ∧ OwnSp w.heap.size w' (.slice ao (putS s now key x til).length co) l) ∧ Below w.heap.size w w' := by
    intro V l E he hE hm ho
    have hl : l.length = (putS s now key x til).length := by rw [← List.length_map (f := Prod.fst), hm]
    obtain ⟨ao, co, rfl⟩ := slice_ownY ho.row
    rw [hl] at he ho
    rw [hE]
    exact ⟨⟨ao, co, l, he, hm, ho⟩, hb⟩
  have hnil : OwnSp w.heap.size w' (.slice none 0 0) [] := ⟨World.ownsRow_nil _ _ _ _, by simp⟩
  rcases h with ⟨h1, h2⟩ | ⟨h1, h2, V, l, h3, h4, h5⟩ | ⟨h1, h2, h3, h4⟩ | ⟨h1, h2, h3, V, l, h4, h5, h6⟩
  · have hE : putE s now key x til = putErr s now key x til := by unfold putE; rw [if_pos h1]
    refine hfin _ [] _ h2 hE ?_ hnil
    unfold putS
    rw [if_pos h1]; rfl
  · refine hfin _ l _ h3 ?_ ?_ h5
    · unfold putE; rw [if_neg (by simp [h1]), if_pos h2]
    · unfold putS; rw [if_neg (by simp [h1]), if_pos h2]; exact h4
  · refine hfin _ [] _ h4 ?_ ?_ hnil
    · unfold putE; rw [if_neg (by simp [h1]), if_neg (by simp [h2]), if_pos h3]
    · unfold putS; rw [if_neg (by simp [h1]), if_neg (by simp [h2]), if_pos h3]; rfl
  · refine hfin _ l _ h4 ?_ ?_ h6
    · unfold putE; rw [if_neg (by simp [h1]), if_neg (by simp [h2]), if_neg (by omega)]
    · unfold putS; rw [if_neg (by simp [h1]), if_neg (by simp [h2]), if_neg (by omega)]; exact h5.eq
theorem putS_right (s : List Ent) (now : Int) (key : ByteArray) (x : Itm) (til : Int) : SpRight (putS s now key x til) := by
  by_cases h : putE s now key x til = 0
  · exact (putOk h).right
  · rw [putS_err h]
    exact ⟨Nat.zero_le _, by simp, List.Pairwise.nil⟩
theorem OwnSp.space {B : Nat} {w : World} {a : Option Addr} {c : Nat} {s : List Ent} {l : List (Ent × Sls)} (h : OwnSp B w (.slice a s.length c) l) (hm : l.map Prod.fst = s) (hr : SpRight s) : SpaceAt w a s := by
  obtain ⟨a2, c2, he, hs⟩ := h.at (fun z hz => chk_rightI (chkE_right (hr.e z.1 (hm ▸ List.mem_map.2 ⟨z, hz, rfl⟩))).2.1)
  injection he with h1 h2 h3
  subst h1
  rw [hm] at hs
  exact hs
end Go.Proofs.YtmaancidkpfopaaGreatDoor

/- WALKS of the keeper of a space: item, until, has, put, drop. -/
namespace Go.Proofs.YtmaancidkpfopaaGreatDoor
open Go.RowKit

/-- a keeper that lies in memory: a space, and a time -/
structure KeepAt (w : World) (b : Nat) (s : List Ent) (now : Int) : Prop where
  ex : ∃ a c, w.heap[b]? = some (.cells #[.slice a s.length c, .int .i64 now] 54 (0, 0)) ∧ SpaceAt w a s
  n : s.length ≤ 281474976710656
theorem KeepAt.below {w w' : World} {b : Nat} {s : List Ent} {now : Int} (h : KeepAt w b s now) (hb : Below w.heap.size w w') : KeepAt w' b s now := by
  obtain ⟨⟨a, c, h1, h2⟩, h3⟩ := h
  exact ⟨⟨a, c, (hb.block _ (Array.getElem?_eq_some_iff.1 h1).1).trans h1, h2.below hb⟩, h3⟩
set_option maxRecDepth 100000 in
set_option maxHeartbeats 4000000 in
theorem keepUntil_any (b : Nat) (s : List Ent) (now : Int) (key : ByteArray) (w : World) (h : KeepAt w b s now) :
    Calls Tryz.prog 158 #[.pointer (some ⟨b, 0, none⟩), .string key] w fun e w' => e = .returned (.int .i64 (untilR s now key)) ∧ Below w.heap.size w w' := by
  obtain ⟨⟨a, c, hh, hs⟩, hn⟩ := h
  have c0 : w.cell? ⟨b, 0, none⟩ = some (.slice a s.length c) := by simp [World.cell?, hh]
  have c1 : w.cell? ⟨b, 1, none⟩ = some (.int .i64 now) := by simp [World.cell?, hh]
  have hbl : b < w.heap.size := (Array.getElem?_eq_some_iff.1 hh).1
  have HU := hide (fun W (hW : Below w.heap.size w W) => until_tells a c s now key W (hs.below hW) hn)
  have HD := hide (fun (W : World) (hW : Below w.heap.size w W) => And.intro ((hW.cell (p := ⟨b, 0, none⟩) hbl).trans c0) ((hW.cell (p := ⟨b, 1, none⟩) hbl).trans c1))
  have B0 : Below w.heap.size w w.drew := (Below.refl _ w).drew
  have HB0 := hide B0
  clear hh hs B0
  generalize untilR s now key = UR at *
  generalize untilE s now key = UE at *
  go_enter Tryz.func158, Tryz.ntmps158
  go_wp2_with fail
  go_region_held3 (fun w' => w'.cell? ⟨b, 0, none⟩ = some (.slice a s.length c) ∧ w'.cell? ⟨b, 1, none⟩ = some (.int .i64 now)) (go_keep)
    ((go_at_call 220; refine (HU.out _ HB0.out).mono ?_; rintro e w9 ⟨rfl, hb9⟩; obtain ⟨k0, k1⟩ := HD.out w9 (HB0.out.trans hb9)))
  all_goals
    go_wp2_with fail
    go_ret
    exact ⟨rfl, HB0.out.trans hb9⟩
/-- an item's value by its shape -/
theorem shapeE {w : World} {v : Value} {x : Itm} (h : ItemIs w v x) : ∃ a1 c1 a2 c2 a3 c3, v = .agg #[.int .i64 x.k, .string x.t, .slice a1 x.l.length c1, .slice a2 x.p.length c2, .slice a3 x.s.length c3] := by
  obtain ⟨a1, c1, a2, c2, a3, c3, e, -⟩ := h.ex
  exact ⟨a1, c1, a2, c2, a3, c3, e⟩
/-- five cells of a block stored anew -/
theorem put5Q {w : World} {b T : Nat} {x0 x1 x2 x3 x4 : Value} (h : w.heap[b]? = some (.cells #[x0, x1, x2, x3, x4] T (0, 0))) (y0 y1 y2 y3 y4 : Value) :
    (((((w.setCell ⟨b, 0, none⟩ y0).setCell ⟨b, 1, none⟩ y1).setCell ⟨b, 2, none⟩ y2).setCell ⟨b, 3, none⟩ y3).setCell ⟨b, 4, none⟩ y4).heap[b]? = some (.cells #[y0, y1, y2, y3, y4] T (0, 0)) ∧ Kept (one b) w (((((w.setCell ⟨b, 0, none⟩ y0).setCell ⟨b, 1, none⟩ y1).setCell ⟨b, 2, none⟩ y2).setCell ⟨b, 3, none⟩ y3).setCell ⟨b, 4, none⟩ y4) :=
  ⟨by rw [setCell_heapY (setCell_heapY (setCell_heapY (setCell_heapY (setCell_heapY h 0 _) 1 _) 2 _) 3 _) 4 _]; rfl, (((((Kept.refl (one b) w).set1 0 _).set1 1 _).set1 2 _).set1 3 _).set1 4 _⟩
set_option maxRecDepth 100000 in
set_option maxHeartbeats 16000000 in
theorem keepItem_any (b : Nat) (s : List Ent) (now : Int) (key : ByteArray) (w : World) (h : KeepAt w b s now) :
    Calls Tryz.prog 152 #[.pointer (some ⟨b, 0, none⟩), .string key] w fun e w' => (∃ v, e = .returned v ∧ ItemIs w' v (getR s now key)) ∧ Below w.heap.size w w' := by
  obtain ⟨⟨a, c, hh, hs⟩, hn⟩ := h
  have c0 : w.cell? ⟨b, 0, none⟩ = some (.slice a s.length c) := by simp [World.cell?, hh]
  have c1 : w.cell? ⟨b, 1, none⟩ = some (.int .i64 now) := by simp [World.cell?, hh]
  have hbl : b < w.heap.size := (Array.getElem?_eq_some_iff.1 hh).1
  have HU : Hid (∀ W, Below w.heap.size w W → Calls Tryz.prog 217 #[.slice a s.length c, .int .i64 now, .string key] W fun e w' => (∃ a1 c1 a2 c2 a3 c3, e = .returned (.tuple #[.agg #[.int .i64 (getR s now key).k, .string (getR s now key).t, .slice a1 (getR s now key).l.length c1, .slice a2 (getR s now key).p.length c2, .slice a3 (getR s now key).s.length c3], .int .i64 (chkKey s now key)]) ∧ OwnItem W.heap.size w' (.agg #[.int .i64 (getR s now key).k, .string (getR s now key).t, .slice a1 (getR s now key).l.length c1, .slice a2 (getR s now key).p.length c2, .slice a3 (getR s now key).s.length c3]) (getR s now key)) ∧ Below W.heap.size W w') := fun W hW => by
    refine (get_tells a c s now key W (hs.below hW) hn).mono fun e w' ⟨⟨v, h1, h2⟩, h3⟩ => ?_
    obtain ⟨a1, c1, a2, c2, a3, c3, rfl⟩ := shapeE (h2.is (getR_right s now key))
    exact ⟨⟨a1, c1, a2, c2, a3, c3, h1, h2⟩, h3⟩
  have HRI := hide (getR_right s now key)
  have HD := hide (fun (W : World) (hW : Below w.heap.size w W) => And.intro ((hW.cell (p := ⟨b, 0, none⟩) hbl).trans c0) ((hW.cell (p := ⟨b, 1, none⟩) hbl).trans c1))
  obtain ⟨V, hV, AV, RB⟩ : ∃ V, w.alloc (.cells #[.int .i64 0, .string ⟨#[]⟩, .slice none 0 0, .slice none 0 0, .slice none 0 0] 40) = V ∧ Below w.heap.size w V ∧ V.heap[w.heap.size]? = some (.cells #[.int .i64 0, .string ⟨#[]⟩, .slice none 0 0, .slice none 0 0, .slice none 0 0] 40) := ⟨_, rfl, (Below.refl _ w).alloc (Nat.le_refl _) _, by show (w.heap.push _)[w.heap.size]? = _; simp⟩
  have B0 : Below w.heap.size w V.drew := AV.drew
  have HB0 := hide B0
  have HRB := hide RB
  obtain ⟨v0, v1⟩ := HD.out V AV
  have hwV : w.heap.size < V.heap.size := (Array.getElem?_eq_some_iff.1 RB).1
  have HWV := hide hwV
  clear hh hs B0 RB c0 c1 hwV
  generalize getR s now key = X at *
  generalize chkKey s now key = UE at *
  go_enter Tryz.func152, Tryz.ntmps152
  obtain ⟨V2, hV2, AV2, NB⟩ : ∃ V2, (V.alloc (.cells #[.int .i64 0, .string ⟨#[]⟩, .slice none 0 0, .slice none 0 0, .slice none 0 0] 40)).drew = V2 ∧ Below V.heap.size V V2 ∧ V2.heap[V.heap.size]? = some (.cells #[.int .i64 0, .string ⟨#[]⟩, .slice none 0 0, .slice none 0 0, .slice none 0 0] 40) := ⟨_, rfl, ((Below.refl _ V).alloc (Nat.le_refl _) _).drew, by show (V.heap.push _)[V.heap.size]? = _; simp⟩
  have HV2 := hide hV2
  have HNB := hide NB
  have HAV2 := hide AV2
  have HB2 : Hid (Below w.heap.size w V2) := AV.trans (AV2.mono AV.size)
  clear hV2 NB AV AV2
  go_wp2_with fail
  clear hV
  refine wp_region_held_drew (S := (fun w' : World => w'.cell? ⟨b, 0, none⟩ = some (.slice a s.length c) ∧ w'.cell? ⟨b, 1, none⟩ = some (.int .i64 now))) (by kernel_rfl) (HD.out V.drew HB0.out) (fun hHeld => ?_)
  refine wpAnyH_take (i := 0) (v := .pointer (some ⟨b, 0, none⟩)) rfl (by kernel_rfl) (by kernel_rfl) (by kernel_rfl) (fun _ _ _ h => h) (Or.inl ⟨by kernel_rfl, by intro w hSw; (try dsimp only at hSw); go_simp⟩) (by assumption) ?_
  refine wpAnyH_take (i := 1) (v := .pointer (some ⟨b, 0, none⟩)) rfl (by kernel_rfl) (by kernel_rfl) (by kernel_rfl) (fun _ _ _ h => h) (Or.inl ⟨by kernel_rfl, by intro w hSw; (try dsimp only at hSw); go_simp⟩) (by assumption) ?_
  refine wpAnyH_take (i := 2) (v := .pointer (some ⟨b, 0, none⟩)) rfl (by kernel_rfl) (by kernel_rfl) (by kernel_rfl) (fun _ _ _ h => h) (Or.inl ⟨by kernel_rfl, by intro w hSw; (try dsimp only at hSw); go_simp⟩) (by assumption) ?_
  refine wpAnyH_take (i := 3) (v := .slice a s.length c) rfl (by kernel_rfl) (by kernel_rfl) (by kernel_rfl) (fun _ _ _ h => h) (Or.inl ⟨by kernel_rfl, by intro w hSw; (try dsimp only at hSw); go_simp⟩) (by assumption) ?_
  refine wpAnyH_take (i := 4) (v := .pointer (some ⟨b, 0, none⟩)) rfl (by kernel_rfl) (by kernel_rfl) (by kernel_rfl) (fun _ _ _ h => h) (Or.inl ⟨by kernel_rfl, by intro w hSw; (try dsimp only at hSw); go_simp⟩) (by assumption) ?_
  refine wpAnyH_take (i := 5) (v := .pointer (some ⟨b, 0, none⟩)) rfl (by kernel_rfl) (by kernel_rfl) (by kernel_rfl) (fun _ _ _ h => h) (Or.inl ⟨by kernel_rfl, by intro w hSw; (try dsimp only at hSw); go_simp⟩) (by assumption) ?_
  refine wpAnyH_take (i := 6) (v := .pointer (some ⟨b, 1, none⟩)) rfl (by kernel_rfl) (by kernel_rfl) (by kernel_rfl) (fun _ _ _ h => h) (Or.inl ⟨by kernel_rfl, by intro w hSw; (try dsimp only at hSw); go_simp⟩) (by assumption) ?_
  refine wpAnyH_take (i := 7) (v := .int .i64 now) rfl (by kernel_rfl) (by kernel_rfl) (by kernel_rfl) (fun _ _ _ h => h) (Or.inl ⟨by kernel_rfl, by intro w hSw; (try dsimp only at hSw); go_simp⟩) (by assumption) ?_
  refine wpAnyH_take (i := 8) (v := .string key) rfl (by kernel_rfl) (by kernel_rfl) (by kernel_rfl) (fun _ _ _ h => h) (Or.inl ⟨by kernel_rfl, by intro w hSw; (try dsimp only at hSw); go_simp⟩) (by assumption) ?_
  refine wpAnyH_ready (rs := [9, 13]) (by kernel_rfl) (by simp) ?_
  refine AllReadyH.cons rfl (fun K hK => ?_) (AllReadyH.cons rfl (fun K hK => ?_) AllReadyH.nil)
  · go_simp
    refine (HU.out _ HB0.out).mono ?_
    rintro e w9 ⟨⟨a1, c1, a2, c2, a3, c3, rfl, ho9⟩, hb9⟩
    have hbb : Below w.heap.size w w9 := HB0.out.trans (hb9.mono HB0.out.size)
    refine hK.out _ _ (HD.out w9 hbb) (fun hHeld => ?_)
    clear hK K
    refine wpAnyH_take (i := 10) (v := .tuple #[.agg #[.int .i64 X.k, .string X.t, .slice a1 X.l.length c1, .slice a2 X.p.length c2, .slice a3 X.s.length c3], .int .i64 UE]) rfl (by kernel_rfl) (by kernel_rfl) (by kernel_rfl) (fun _ _ _ h => h) (Or.inl ⟨by kernel_rfl, by intro w hSw; (try dsimp only at hSw); go_simp⟩) (by assumption) ?_
    refine wpAnyH_take (i := 11) (v := .agg #[.int .i64 X.k, .string X.t, .slice a1 X.l.length c1, .slice a2 X.p.length c2, .slice a3 X.s.length c3]) rfl (by kernel_rfl) (by kernel_rfl) (by kernel_rfl) (fun _ _ _ h => h) (Or.inl ⟨by kernel_rfl, by intro w hSw; (try dsimp only at hSw); go_simp⟩) (by assumption) ?_
    refine wpAnyH_take (i := 12) (v := .int .i64 UE) rfl (by kernel_rfl) (by kernel_rfl) (by kernel_rfl) (fun _ _ _ h => h) (Or.inl ⟨by kernel_rfl, by intro w hSw; (try dsimp only at hSw); go_simp⟩) (by assumption) ?_
    obtain ⟨V3, hV3, AV3, HZB⟩ : ∃ V3, w9.alloc (.cells #[.int .i64 0, .string ⟨#[]⟩, .slice none 0 0, .slice none 0 0, .slice none 0 0] 40) = V3 ∧ Below w9.heap.size w9 V3 ∧ V3.heap[w9.heap.size]? = some (.cells #[.int .i64 0, .string ⟨#[]⟩, .slice none 0 0, .slice none 0 0, .slice none 0 0] 40) := ⟨_, rfl, (Below.refl _ w9).alloc (Nat.le_refl _) _, by show (w9.heap.push _)[w9.heap.size]? = _; simp⟩
    have HVB : Below w.heap.size w V3 := hbb.trans (AV3.mono hbb.size)
    have hV9 : V.heap.size ≤ w9.heap.size := hb9.size
    have HLB : Hid (w.heap.size < w9.heap.size ∧ w9.heap.size < V3.heap.size) := ⟨Nat.lt_of_lt_of_le HWV.out hV9, (Array.getElem?_eq_some_iff.1 HZB).1⟩
    have HLV : Hid (w.heap.size < V.drew.heap.size) := HWV.out
    have HRX : V3.heap[w.heap.size]? = some (.cells #[.int .i64 0, .string ⟨#[]⟩, .slice none 0 0, .slice none 0 0, .slice none 0 0] 40 (0, 0)) := (AV3.block _ HLB.out.1).trans ((hb9.block _ HWV.out).trans HRB.out)
    have HV3 := hide hV3
    have HO9 := hide ho9
    have HAV3 := hide AV3
    clear hV3 ho9 hb9 hbb AV3 hV9
    refine wpAnyH_ready (rs := [13]) (by kernel_rfl) (by simp) ?_
    refine AllReadyH.cons rfl (fun K hK => ?_) AllReadyH.nil
    go_simp
    rw [HV3.out]
    refine hK.out _ _ (HD.out V3 HVB) (fun hHeld => ?_)
    clear hK K
    have m0 : V3.cell? ⟨w9.heap.size, 0, none⟩ = some (.int .i64 0) := by simp [World.cell?, HZB]
    have n0 : V3.frozen? ⟨w9.heap.size, 0, none⟩ = false := by simp [World.frozen?, HZB]
    have m1 : V3.cell? ⟨w9.heap.size, 1, none⟩ = some (.string ⟨#[]⟩) := by simp [World.cell?, HZB]
    have n1 : V3.frozen? ⟨w9.heap.size, 1, none⟩ = false := by simp [World.frozen?, HZB]
    have m2 : V3.cell? ⟨w9.heap.size, 2, none⟩ = some (.slice none 0 0) := by simp [World.cell?, HZB]
    have n2 : V3.frozen? ⟨w9.heap.size, 2, none⟩ = false := by simp [World.frozen?, HZB]
    have m3 : V3.cell? ⟨w9.heap.size, 3, none⟩ = some (.slice none 0 0) := by simp [World.cell?, HZB]
    have n3 : V3.frozen? ⟨w9.heap.size, 3, none⟩ = false := by simp [World.frozen?, HZB]
    have m4 : V3.cell? ⟨w9.heap.size, 4, none⟩ = some (.slice none 0 0) := by simp [World.cell?, HZB]
    have n4 : V3.frozen? ⟨w9.heap.size, 4, none⟩ = false := by simp [World.frozen?, HZB]
    have HP := hide (put5Q HZB (.int .i64 X.k) (.string X.t) (.slice a1 X.l.length c1) (.slice a2 X.p.length c2) (.slice a3 X.s.length c3))
    have hzz : w9.heap.size < V3.heap.size := (Array.getElem?_eq_some_iff.1 HZB).1
    have HRR := hide HRX
    have HVV := hide HVB
    clear HZB HRX HVB
    refine wpAnyH_ready (rs := [14]) (by kernel_rfl) (by simp) ?_
    refine AllReadyH.cons rfl (fun K hK => ?_) AllReadyH.nil
    go_simp
    obtain ⟨hH, hKp⟩ := HP.out
    generalize (((((V3.setCell ⟨w9.heap.size, 0, none⟩ (.int .i64 X.k)).setCell ⟨w9.heap.size, 1, none⟩ (.string X.t)).setCell ⟨w9.heap.size, 2, none⟩ (.slice a1 X.l.length c1)).setCell ⟨w9.heap.size, 3, none⟩ (.slice a2 X.p.length c2)).setCell ⟨w9.heap.size, 4, none⟩ (.slice a3 X.s.length c3)) = V4 at *
    have HB4 : Hid (Below w.heap.size w V4) := HVV.out.trans (hKp.below (B := w.heap.size) (by have := HLB.out; omega) (fun k hk => by simp only [one] at hk; have := HLB.out; omega))
    refine hK.out _ _ (HD.out V4 HB4.out) (fun hHeld => ?_)
    clear hK K m0 m1 m2 m3 m4 n0 n1 n2 n3 n4
    refine wpAnyH_take (i := 15) (v := .int .i64 UE) rfl (by kernel_rfl) (by kernel_rfl) (by kernel_rfl) (fun _ _ _ h => h) (Or.inl ⟨by kernel_rfl, by intro w hSw; (try dsimp only at hSw); go_simp⟩) (by assumption) ?_
    refine wpAnyH_done (by kernel_rfl) ?_ _
    have hR4 : V4.heap[w.heap.size]? = some (.cells #[.int .i64 0, .string ⟨#[]⟩, .slice none 0 0, .slice none 0 0, .slice none 0 0] 40 (0, 0)) := (hKp.block _ (Array.getElem?_eq_some_iff.1 HRR.out).1 (by simp only [one]; have := HLB.out; omega)).trans HRR.out
    have hO4 := HO9.out.below (HAV3.out.trans (hKp.below (B := w9.heap.size) HAV3.out.size (fun k hk => by simp only [one] at hk; omega)))
    have HO4 := hide hO4
    have m0 : V4.cell? ⟨w9.heap.size, 0, none⟩ = some (.int .i64 X.k) := by simp [World.cell?, hH]
    have m1 : V4.cell? ⟨w9.heap.size, 1, none⟩ = some (.string X.t) := by simp [World.cell?, hH]
    have m2 : V4.cell? ⟨w9.heap.size, 2, none⟩ = some (.slice a1 X.l.length c1) := by simp [World.cell?, hH]
    have m3 : V4.cell? ⟨w9.heap.size, 3, none⟩ = some (.slice a2 X.p.length c2) := by simp [World.cell?, hH]
    have m4 : V4.cell? ⟨w9.heap.size, 4, none⟩ = some (.slice a3 X.s.length c3) := by simp [World.cell?, hH]
    have r0 : V4.cell? ⟨w.heap.size, 0, none⟩ = some (.int .i64 0) := by simp [World.cell?, hR4]
    have n0 : V4.frozen? ⟨w.heap.size, 0, none⟩ = false := by simp [World.frozen?, hR4]
    have r1 : V4.cell? ⟨w.heap.size, 1, none⟩ = some (.string ⟨#[]⟩) := by simp [World.cell?, hR4]
    have n1 : V4.frozen? ⟨w.heap.size, 1, none⟩ = false := by simp [World.frozen?, hR4]
    have r2 : V4.cell? ⟨w.heap.size, 2, none⟩ = some (.slice none 0 0) := by simp [World.cell?, hR4]
    have n2 : V4.frozen? ⟨w.heap.size, 2, none⟩ = false := by simp [World.frozen?, hR4]
    have r3 : V4.cell? ⟨w.heap.size, 3, none⟩ = some (.slice none 0 0) := by simp [World.cell?, hR4]
    have n3 : V4.frozen? ⟨w.heap.size, 3, none⟩ = false := by simp [World.frozen?, hR4]
    have r4 : V4.cell? ⟨w.heap.size, 4, none⟩ = some (.slice none 0 0) := by simp [World.cell?, hR4]
    have n4 : V4.frozen? ⟨w.heap.size, 4, none⟩ = false := by simp [World.frozen?, hR4]
    have HQ := hide (put5Q hR4 (.int .i64 X.k) (.string X.t) (.slice a1 X.l.length c1) (.slice a2 X.p.length c2) (.slice a3 X.s.length c3))
    have hz4 : w.heap.size < V4.heap.size := (Array.getElem?_eq_some_iff.1 hR4).1
    have hnb : ¬ w9.heap.size = w.heap.size := by have := HLB.out; omega
    have hnb2 : ¬ w.heap.size = w9.heap.size := by have := HLB.out; omega
    clear hH hKp hR4 hO4 HP
    go_wp2_with fail
    obtain ⟨hH, hKp⟩ := HQ.out
    generalize (((((V4.setCell ⟨w.heap.size, 0, none⟩ (.int .i64 X.k)).setCell ⟨w.heap.size, 1, none⟩ (.string X.t)).setCell ⟨w.heap.size, 2, none⟩ (.slice a1 X.l.length c1)).setCell ⟨w.heap.size, 3, none⟩ (.slice a2 X.p.length c2)).setCell ⟨w.heap.size, 4, none⟩ (.slice a3 X.s.length c3)) = V5 at *
    refine bodyPost_ret (v := .agg #[.int .i64 X.k, .string X.t, .slice a1 X.l.length c1, .slice a2 X.p.length c2, .slice a3 X.s.length c3]) (by simp [results, Tryz.results152, go_sem, World.cell?, hH]) rfl ⟨⟨_, rfl, ?_⟩, HB4.out.trans (hKp.below (B := w.heap.size) (Nat.le_of_lt hz4) (fun k hk => by simp only [one] at hk; omega))⟩
    exact (HO4.out.kept (B2 := w.heap.size) hKp (by have := HLV.out; omega) (fun k _ _ hk _ _ => by simp only [one]; have := HLV.out; omega)).is HRI.out
  · go_simp
    rw [HV2.out]
    refine hK.out _ _ (HD.out V2 HB2.out) (fun hHeld => ?_)
    clear hK K
    refine wpAnyH_ready (rs := [9]) (by kernel_rfl) (by simp) ?_
    refine AllReadyH.cons rfl (fun K hK => ?_) AllReadyH.nil
    go_simp
    refine (HU.out _ HB2.out).mono ?_
    rintro e w9 ⟨⟨a1, c1, a2, c2, a3, c3, rfl, ho9⟩, hb9⟩
    have HVB : Below w.heap.size w w9 := HB2.out.trans (hb9.mono HB2.out.size)
    refine hK.out _ _ (HD.out w9 HVB) (fun hHeld => ?_)
    clear hK K
    refine wpAnyH_take (i := 10) (v := .tuple #[.agg #[.int .i64 X.k, .string X.t, .slice a1 X.l.length c1, .slice a2 X.p.length c2, .slice a3 X.s.length c3], .int .i64 UE]) rfl (by kernel_rfl) (by kernel_rfl) (by kernel_rfl) (fun _ _ _ h => h) (Or.inl ⟨by kernel_rfl, by intro w hSw; (try dsimp only at hSw); go_simp⟩) (by assumption) ?_
    refine wpAnyH_take (i := 11) (v := .agg #[.int .i64 X.k, .string X.t, .slice a1 X.l.length c1, .slice a2 X.p.length c2, .slice a3 X.s.length c3]) rfl (by kernel_rfl) (by kernel_rfl) (by kernel_rfl) (fun _ _ _ h => h) (Or.inl ⟨by kernel_rfl, by intro w hSw; (try dsimp only at hSw); go_simp⟩) (by assumption) ?_
    refine wpAnyH_take (i := 12) (v := .int .i64 UE) rfl (by kernel_rfl) (by kernel_rfl) (by kernel_rfl) (fun _ _ _ h => h) (Or.inl ⟨by kernel_rfl, by intro w hSw; (try dsimp only at hSw); go_simp⟩) (by assumption) ?_
    have hVV2 : V.heap.size < V2.heap.size := (Array.getElem?_eq_some_iff.1 HNB.out).1
    have HLB : Hid (w.heap.size < V.heap.size ∧ V.heap.size < w9.heap.size) := ⟨HWV.out, Nat.lt_of_lt_of_le hVV2 hb9.size⟩
    have HLV : Hid (w.heap.size < V2.heap.size) := Nat.lt_trans HWV.out hVV2
    have HZB : w9.heap[V.heap.size]? = some (.cells #[.int .i64 0, .string ⟨#[]⟩, .slice none 0 0, .slice none 0 0, .slice none 0 0] 40 (0, 0)) := (hb9.block _ hVV2).trans HNB.out
    have HRX : w9.heap[w.heap.size]? = some (.cells #[.int .i64 0, .string ⟨#[]⟩, .slice none 0 0, .slice none 0 0, .slice none 0 0] 40 (0, 0)) := (hb9.block _ HLV.out).trans ((HAV2.out.block _ HWV.out).trans HRB.out)
    have HO9 := hide ho9
    have HVV2 := hide hVV2
    clear ho9 hb9 hVV2
    have m0 : w9.cell? ⟨V.heap.size, 0, none⟩ = some (.int .i64 0) := by simp [World.cell?, HZB]
    have n0 : w9.frozen? ⟨V.heap.size, 0, none⟩ = false := by simp [World.frozen?, HZB]
    have m1 : w9.cell? ⟨V.heap.size, 1, none⟩ = some (.string ⟨#[]⟩) := by simp [World.cell?, HZB]
    have n1 : w9.frozen? ⟨V.heap.size, 1, none⟩ = false := by simp [World.frozen?, HZB]
    have m2 : w9.cell? ⟨V.heap.size, 2, none⟩ = some (.slice none 0 0) := by simp [World.cell?, HZB]
    have n2 : w9.frozen? ⟨V.heap.size, 2, none⟩ = false := by simp [World.frozen?, HZB]
    have m3 : w9.cell? ⟨V.heap.size, 3, none⟩ = some (.slice none 0 0) := by simp [World.cell?, HZB]
    have n3 : w9.frozen? ⟨V.heap.size, 3, none⟩ = false := by simp [World.frozen?, HZB]
    have m4 : w9.cell? ⟨V.heap.size, 4, none⟩ = some (.slice none 0 0) := by simp [World.cell?, HZB]
    have n4 : w9.frozen? ⟨V.heap.size, 4, none⟩ = false := by simp [World.frozen?, HZB]
    have HP := hide (put5Q HZB (.int .i64 X.k) (.string X.t) (.slice a1 X.l.length c1) (.slice a2 X.p.length c2) (.slice a3 X.s.length c3))
    have hzz : V.heap.size < w9.heap.size := (Array.getElem?_eq_some_iff.1 HZB).1
    have HRR := hide HRX
    have HVV := hide HVB
    clear HZB HRX HVB
    refine wpAnyH_ready (rs := [14]) (by kernel_rfl) (by simp) ?_
    refine AllReadyH.cons rfl (fun K hK => ?_) AllReadyH.nil
    go_simp
    obtain ⟨hH, hKp⟩ := HP.out
    generalize (((((w9.setCell ⟨V.heap.size, 0, none⟩ (.int .i64 X.k)).setCell ⟨V.heap.size, 1, none⟩ (.string X.t)).setCell ⟨V.heap.size, 2, none⟩ (.slice a1 X.l.length c1)).setCell ⟨V.heap.size, 3, none⟩ (.slice a2 X.p.length c2)).setCell ⟨V.heap.size, 4, none⟩ (.slice a3 X.s.length c3)) = V4 at *
    have HB4 : Hid (Below w.heap.size w V4) := HVV.out.trans (hKp.below (B := w.heap.size) (by have := HLB.out; omega) (fun k hk => by simp only [one] at hk; have := HLB.out; omega))
    refine hK.out _ _ (HD.out V4 HB4.out) (fun hHeld => ?_)
    clear hK K m0 m1 m2 m3 m4 n0 n1 n2 n3 n4
    refine wpAnyH_take (i := 15) (v := .int .i64 UE) rfl (by kernel_rfl) (by kernel_rfl) (by kernel_rfl) (fun _ _ _ h => h) (Or.inl ⟨by kernel_rfl, by intro w hSw; (try dsimp only at hSw); go_simp⟩) (by assumption) ?_
    refine wpAnyH_done (by kernel_rfl) ?_ _
    have hR4 : V4.heap[w.heap.size]? = some (.cells #[.int .i64 0, .string ⟨#[]⟩, .slice none 0 0, .slice none 0 0, .slice none 0 0] 40 (0, 0)) := (hKp.block _ (Array.getElem?_eq_some_iff.1 HRR.out).1 (by simp only [one]; have := HLB.out; omega)).trans HRR.out
    have hO4 := HO9.out.kept (B2 := V2.heap.size) hKp (Nat.le_refl _) (fun k _ _ hk _ _ => by simp only [one]; have := HVV2.out; omega)
    have HO4 := hide hO4
    have m0 : V4.cell? ⟨V.heap.size, 0, none⟩ = some (.int .i64 X.k) := by simp [World.cell?, hH]
    have m1 : V4.cell? ⟨V.heap.size, 1, none⟩ = some (.string X.t) := by simp [World.cell?, hH]
    have m2 : V4.cell? ⟨V.heap.size, 2, none⟩ = some (.slice a1 X.l.length c1) := by simp [World.cell?, hH]
    have m3 : V4.cell? ⟨V.heap.size, 3, none⟩ = some (.slice a2 X.p.length c2) := by simp [World.cell?, hH]
    have m4 : V4.cell? ⟨V.heap.size, 4, none⟩ = some (.slice a3 X.s.length c3) := by simp [World.cell?, hH]
    have r0 : V4.cell? ⟨w.heap.size, 0, none⟩ = some (.int .i64 0) := by simp [World.cell?, hR4]
    have n0 : V4.frozen? ⟨w.heap.size, 0, none⟩ = false := by simp [World.frozen?, hR4]
    have r1 : V4.cell? ⟨w.heap.size, 1, none⟩ = some (.string ⟨#[]⟩) := by simp [World.cell?, hR4]
    have n1 : V4.frozen? ⟨w.heap.size, 1, none⟩ = false := by simp [World.frozen?, hR4]
    have r2 : V4.cell? ⟨w.heap.size, 2, none⟩ = some (.slice none 0 0) := by simp [World.cell?, hR4]
    have n2 : V4.frozen? ⟨w.heap.size, 2, none⟩ = false := by simp [World.frozen?, hR4]
    have r3 : V4.cell? ⟨w.heap.size, 3, none⟩ = some (.slice none 0 0) := by simp [World.cell?, hR4]
    have n3 : V4.frozen? ⟨w.heap.size, 3, none⟩ = false := by simp [World.frozen?, hR4]
    have r4 : V4.cell? ⟨w.heap.size, 4, none⟩ = some (.slice none 0 0) := by simp [World.cell?, hR4]
    have n4 : V4.frozen? ⟨w.heap.size, 4, none⟩ = false := by simp [World.frozen?, hR4]
    have HQ := hide (put5Q hR4 (.int .i64 X.k) (.string X.t) (.slice a1 X.l.length c1) (.slice a2 X.p.length c2) (.slice a3 X.s.length c3))
    have hz4 : w.heap.size < V4.heap.size := (Array.getElem?_eq_some_iff.1 hR4).1
    have hnb : ¬ V.heap.size = w.heap.size := by have := HLB.out; omega
    have hnb2 : ¬ w.heap.size = V.heap.size := by have := HLB.out; omega
    clear hH hKp hR4 hO4 HP
    go_wp2_with fail
    obtain ⟨hH, hKp⟩ := HQ.out
    generalize (((((V4.setCell ⟨w.heap.size, 0, none⟩ (.int .i64 X.k)).setCell ⟨w.heap.size, 1, none⟩ (.string X.t)).setCell ⟨w.heap.size, 2, none⟩ (.slice a1 X.l.length c1)).setCell ⟨w.heap.size, 3, none⟩ (.slice a2 X.p.length c2)).setCell ⟨w.heap.size, 4, none⟩ (.slice a3 X.s.length c3)) = V5 at *
    refine bodyPost_ret (v := .agg #[.int .i64 X.k, .string X.t, .slice a1 X.l.length c1, .slice a2 X.p.length c2, .slice a3 X.s.length c3]) (by simp [results, Tryz.results152, go_sem, World.cell?, hH]) rfl ⟨⟨_, rfl, ?_⟩, HB4.out.trans (hKp.below (B := w.heap.size) (Nat.le_of_lt hz4) (fun k hk => by simp only [one] at hk; omega))⟩
    exact (HO4.out.kept (B2 := w.heap.size) hKp (by have := HLV.out; omega) (fun k _ _ hk _ _ => by simp only [one]; have := HLV.out; omega)).is HRI.out
end Go.Proofs.YtmaancidkpfopaaGreatDoor

/- WALK of engine.copied: a space as new memory. -/
namespace Go.Proofs.YtmaancidkpfopaaGreatDoor
open Go.RowKit

theorem sls_of {w : World} {g : Nat} : ∀ (s : List Ent) (o : Nat), (∀ i (h : i < s.length), EntAt w g (o + i * 7) s[i]) → ∃ L : List (Ent × Sls), L.map Prod.fst = s ∧ (∀ j u, (rowE L)[j]? = some u → w.cell? ⟨g, o + j, none⟩ = some u) ∧ (∀ y ∈ L, ItemIs w (itemV y.1.item y.2) y.1.item)
  | [], _, _ => ⟨[], rfl, fun j u h => by simp [rowE] at h, fun y h => by cases h⟩
  | e :: r, o, h => by
    obtain ⟨L, h1, h2, h3⟩ := sls_of r (o + 7) (fun i hi => by
      have := h (i + 1) (by simpa using hi)
      rw [show o + 7 + i * 7 = o + (i + 1) * 7 by omega]
      simpa using this)
    obtain ⟨a1, c1, a2, c2, a3, c3, ⟨d0, d1, d2, d3, d4, d5, d6⟩, hi⟩ := h 0 (by simp)
    refine ⟨(e, ((a1, c1), (a2, c2), (a3, c3))) :: L, by simp [h1], fun j u hj => ?_, fun y hy => ?_⟩
    · have er : rowE ((e, ((a1, c1), (a2, c2), (a3, c3))) :: L) = cellsE (e, ((a1, c1), (a2, c2), (a3, c3))) ++ rowE L := by simp [rowE]
      rw [er] at hj
      by_cases h7 : j < 7
      · rw [List.getElem?_append_left (by simpa [cellsE] using h7)] at hj
        simp only [List.getElem_cons_zero, Nat.zero_mul, Nat.add_zero] at d0 d1 d2 d3 d4 d5 d6
        have hc : j = 0 ∨ j = 1 ∨ j = 2 ∨ j = 3 ∨ j = 4 ∨ j = 5 ∨ j = 6 := by omega
        rcases hc with rfl | rfl | rfl | rfl | rfl | rfl | rfl <;> (simp [cellsE] at hj; subst hj; first | exact d0 | exact d1 | exact d2 | exact d3 | exact d4 | exact d5 | exact d6)
      · have hl : (cellsE (e, ((a1, c1), (a2, c2), (a3, c3)))).length = 7 := rfl
        rw [List.getElem?_append_right (by omega), hl] at hj
        have := h2 (j - 7) u hj
        rwa [show o + 7 + (j - 7) = o + j by omega] at this
    · rcases List.mem_cons.1 hy with rfl | hy
      · exact hi
      · exact h3 y hy
theorem rowE_oneE (L : List (Ent × Sls)) : ∀ u ∈ rowE L, u.oneCell' = true := by
  intro u hu
  obtain ⟨c, hc, huc⟩ := List.mem_flatten.1 hu
  obtain ⟨y, -, rfl⟩ := List.mem_map.1 hc
  simp only [cellsE, List.mem_cons, List.not_mem_nil, or_false] at huc
  rcases huc with rfl | rfl | rfl | rfl | rfl | rfl | rfl <;> rfl
set_option maxRecDepth 100000 in
set_option maxHeartbeats 2000000 in
theorem cloneS_some (ad : Addr) (c : Nat) (s : List Ent) (L : List (Ent × Sls)) (w : World) (hL : L.map Prod.fst = s) (hr : ∀ j u, (rowE L)[j]? = some u → w.cell? (ad.add j) = some u) (hn : s.length ≤ 1000000) :
    Calls Tryz.prog 25 #[.slice (some ad) s.length c] w fun e w' => ∃ v, e = .returned v ∧ w'.ownsRow w.heap.size 42 7 v s.length (rowE L) ∧ Below w.heap.size w w' := by
  obtain ⟨i0, hi, hz0, hz1, hz2⟩ := info_parts infoEnt
  have hlen : (rowE L).length = s.length * 7 := by rw [rowE_len, ← hL, List.length_map]
  have HB : Below w.heap.size w (w.alloc (.cells #[] 42)) := (Below.refl _ w).alloc (Nat.le_refl _) _
  have HO : (w.alloc (.cells #[] 42)).ownsRow w.heap.size 42 7 (.slice (some ⟨w.heap.size, 0, none⟩) 0 0) 0 [] := World.ownsRow_lit w #[] 0 (Nat.le_refl _) (Nat.zero_le _) rfl
  have he : ∀ w : World, (binOp .eql 23 (.slice (some ad) s.length c) (.slice none 0 0)).run Tryz.prog w = .ok (.bool false) w := fun _ => rfl
  have HR : Hid (∀ j u, (rowE L)[j]? = some u → (w.alloc (.cells #[] 42)).cell? (ad.add j) = some u) := fun j u hj => by
    have h1 := hr j u hj
    exact (HB.cell (World.block_lt_of_cell? _ _ h1)).trans h1
  clear hr
  go_enter Tryz.func25, Tryz.ntmps25
  go_wp2_with (at_builtin; refine wpList_append_own _ rfl _ _ 23 rfl w.heap.size 42 i0 (.agg #[.string ⟨#[]⟩, .int .i64 0, .string ⟨#[]⟩, .slice none 0 0, .slice none 0 0, .slice none 0 0, .int .i64 0]) 7 120 Tryz.underlying23 hi hz0 hz1 hz2 rfl (by decide) _ 0 [] rfl HO ad s.length c (rowE L) rfl hlen HR.out (rowE_oneE L) (by unfold maxLen; omega) (by omega) (by simp) ?_)
  intro v2 w2 hown2 hg2 _
  have hb2 : Below w.heap.size w w2 := HB.grown hg2 HB.size (fun j hj => (HO.lt j hj).1)
  go_wp2_with fail
  go_ret
  exact ⟨v2, rfl, hown2, hb2⟩
set_option maxRecDepth 100000 in
theorem cloneS_none (w : World) (c : Nat) :
    Calls Tryz.prog 25 #[.slice none 0 c] w fun e w' => e = .returned (.slice none 0 0) ∧ w' = w := by
  have he : ∀ w : World, (binOp .eql 23 (.slice none 0 c) (.slice none 0 0)).run Tryz.prog w = .ok (.bool true) w := fun _ => rfl
  go_enter Tryz.func25, Tryz.ntmps25
  go_wp2_with fail
  go_ret
  exact ⟨rfl, rfl⟩
/-- an entry's cells -/
def EC (w : World) (g o : Nat) (e : Ent) (q : Sls) : Prop := w.cell? ⟨g, o, none⟩ = some (.string e.key) ∧ w.cell? ⟨g, o + 1, none⟩ = some (.int .i64 e.item.k) ∧ w.cell? ⟨g, o + 2, none⟩ = some (.string e.item.t) ∧ w.cell? ⟨g, o + 3, none⟩ = some (.slice q.1.1 e.item.l.length q.1.2) ∧ w.cell? ⟨g, o + 4, none⟩ = some (.slice q.2.1.1 e.item.p.length q.2.1.2) ∧ w.cell? ⟨g, o + 5, none⟩ = some (.slice q.2.2.1 e.item.s.length q.2.2.2) ∧ w.cell? ⟨g, o + 6, none⟩ = some (.int .i64 e.til)
theorem EC.moved {w w' : World} {g o : Nat} {e : Ent} {q : Sls} (h : EC w g o e q) (hm : ∀ j u, j < 7 → w.cell? ⟨g, o + j, none⟩ = some u → w'.cell? ⟨g, o + j, none⟩ = some u) : EC w' g o e q := by
  obtain ⟨h0, h1, h2, h3, h4, h5, h6⟩ := h
  exact ⟨hm 0 _ (by omega) h0, hm 1 _ (by omega) h1, hm 2 _ (by omega) h2, hm 3 _ (by omega) h3, hm 4 _ (by omega) h4, hm 5 _ (by omega) h5, hm 6 _ (by omega) h6⟩
theorem item_ofOwn {B : Nat} {w w0 : World} {v v0 : Value} {x : Itm} (h : OwnItem B w v x) (h0 : ItemIs w0 v0 x) : ItemIs w v x := by
  obtain ⟨a1, c1, a2, c2, a3, c3, e, h1, h2, h3⟩ := h
  exact ⟨⟨a1, c1, a2, c2, a3, c3, e, textsY h1, pairsY h2, scoresY h3⟩, h0.tz, h0.lz, h0.pz, h0.sz, h0.ll, h0.pl, h0.sl⟩
/-- a space, so many of its items copied -/
structure CopAt (w : World) (s : List Ent) (g k : Nat) (wr : World) : Prop where
  be : Below w.heap.size w wr
  lo : w.heap.size ≤ g
  hi : g < wr.heap.size
  fr : ∀ o, o < s.length * 7 → wr.frozen? ⟨g, o, none⟩ = false
  c : ∀ i (h : i < s.length), ∃ q : Sls, EC wr g (i * 7) s[i] q ∧ (i < k → OwnItem (g + 1) wr (itemV s[i].item q) s[i].item) ∧ (k ≤ i → ItemIs w (itemV s[i].item q) s[i].item) ∧ (∃ w0 v0, ItemIs w0 v0 s[i].item)
theorem CopAt.below {w wr w' : World} {s : List Ent} {g k : Nat} (h : CopAt w s g k wr) (hb : Below wr.heap.size wr w') : CopAt w s g k w' := by
  refine ⟨h.be.trans (hb.mono h.be.size), h.lo, Nat.lt_of_lt_of_le h.hi hb.size, fun o ho => (hb.frozen (p := ⟨g, o, none⟩) h.hi).trans (h.fr o ho), fun i hi => ?_⟩
  obtain ⟨q, h1, h2, h3, h4⟩ := h.c i hi
  exact ⟨q, h1.moved (fun j u _ hu => (hb.cell (p := ⟨g, i * 7 + j, none⟩) h.hi).trans hu), fun e => (h2 e).below hb, h3, h4⟩
/-- five cells stored -/
def put5 (w : World) (g o : Nat) (x : Itm) (q : Sls) : World := ((((w.setCell ⟨g, o + 1, none⟩ (.int .i64 x.k)).setCell ⟨g, o + 2, none⟩ (.string x.t)).setCell ⟨g, o + 3, none⟩ (.slice q.1.1 x.l.length q.1.2)).setCell ⟨g, o + 4, none⟩ (.slice q.2.1.1 x.p.length q.2.1.2)).setCell ⟨g, o + 5, none⟩ (.slice q.2.2.1 x.s.length q.2.2.2)
theorem put5_kept (w : World) (g o : Nat) (x : Itm) (q : Sls) : Kept (one g) w (put5 w g o x q) := (((((Kept.refl (one g) w).set1 (o + 1) _).set1 (o + 2) _).set1 (o + 3) _).set1 (o + 4) _).set1 (o + 5) _
theorem cell_set_other (w : World) (g o o2 : Nat) (u : Value) (h : o ≠ o2) : (w.setCell ⟨g, o, none⟩ u).cell? ⟨g, o2, none⟩ = w.cell? ⟨g, o2, none⟩ := World.cell?_setCell_other _ _ _ _ (by intro e; injection e with _ e2; exact h e2)
theorem put5_other (w : World) (g o : Nat) (x : Itm) (q : Sls) (o2 : Nat) (h : o2 < o + 1 ∨ o + 5 < o2) : (put5 w g o x q).cell? ⟨g, o2, none⟩ = w.cell? ⟨g, o2, none⟩ := by
  unfold put5
  rw [cell_set_other _ _ _ _ _ (by omega), cell_set_other _ _ _ _ _ (by omega), cell_set_other _ _ _ _ _ (by omega), cell_set_other _ _ _ _ _ (by omega), cell_set_other _ _ _ _ _ (by omega)]
theorem put5_frozen (w : World) (g o : Nat) (x : Itm) (q : Sls) (a : Addr) : (put5 w g o x q).frozen? a = w.frozen? a := by
  unfold put5
  simp only [World.frozen?_setCell]
theorem set_same {w : World} {g o : Nat} {v : Value} (u : Value) (h : w.cell? ⟨g, o, none⟩ = some v) : (w.setCell ⟨g, o, none⟩ u).cell? ⟨g, o, none⟩ = some u := World.cell?_setCell_same _ _ _ h
theorem put5_ec {w : World} {g o : Nat} {e : Ent} {q0 : Sls} (h : EC w g o e q0) (q : Sls) : EC (put5 w g o e.item q) g o e q := by
  obtain ⟨h0, h1, h2, h3, h4, h5, h6⟩ := h
  refine ⟨(put5_other _ _ _ _ _ _ (by omega)).trans h0, ?_, ?_, ?_, ?_, ?_, (put5_other _ _ _ _ _ _ (by omega)).trans h6⟩
  · unfold put5
    rw [cell_set_other _ _ _ _ _ (by omega), cell_set_other _ _ _ _ _ (by omega), cell_set_other _ _ _ _ _ (by omega), cell_set_other _ _ _ _ _ (by omega)]
    exact set_same _ h1
  · unfold put5
    rw [cell_set_other _ _ _ _ _ (by omega), cell_set_other _ _ _ _ _ (by omega), cell_set_other _ _ _ _ _ (by omega)]
    exact set_same _ ((cell_set_other _ _ _ _ _ (by omega)).trans h2)
  · unfold put5
    rw [cell_set_other _ _ _ _ _ (by omega), cell_set_other _ _ _ _ _ (by omega)]
    exact set_same _ ((cell_set_other _ _ _ _ _ (by omega)).trans ((cell_set_other _ _ _ _ _ (by omega)).trans h3))
  · unfold put5
    rw [cell_set_other _ _ _ _ _ (by omega)]
    exact set_same _ ((cell_set_other _ _ _ _ _ (by omega)).trans ((cell_set_other _ _ _ _ _ (by omega)).trans ((cell_set_other _ _ _ _ _ (by omega)).trans h4)))
  · unfold put5
    exact set_same _ ((cell_set_other _ _ _ _ _ (by omega)).trans ((cell_set_other _ _ _ _ _ (by omega)).trans ((cell_set_other _ _ _ _ _ (by omega)).trans ((cell_set_other _ _ _ _ _ (by omega)).trans h5))))
theorem CopAt.step {w wr w2 : World} {s : List Ent} {g k : Nat} (h : CopAt w s g k wr) (hk : k < s.length) (hb : Below wr.heap.size wr w2) {q : Sls} (ho : OwnItem wr.heap.size w2 (itemV s[k].item q) s[k].item) : CopAt w s g (k + 1) (put5 w2 g (k * 7) s[k].item q) := by
  have h2 := h.below hb
  have hK := put5_kept w2 g (k * 7) s[k].item q
  have hgw : g < wr.heap.size := h.hi
  refine ⟨h2.be.trans (hK.below (B := w.heap.size) (Nat.le_of_lt (Nat.lt_of_le_of_lt h2.lo h2.hi)) (fun j hj => by simp only [one] at hj; have := h.lo; omega)), h.lo, Nat.lt_of_lt_of_le h2.hi hK.size, fun o ho => (put5_frozen _ _ _ _ _ _).trans (h2.fr o ho), fun i hi => ?_⟩
  by_cases e : i = k
  · subst e
    obtain ⟨q0, h3, -, -, h6⟩ := h2.c i hi
    exact ⟨q, put5_ec h3 q, fun _ => ho.kept hK (by omega) (fun j _ _ hj _ _ => by simp only [one]; omega), fun h => absurd h (by omega), h6⟩
  · obtain ⟨q0, h3, h4, h5, h6⟩ := h2.c i hi
    exact ⟨q0, h3.moved (fun j u hj hu => (put5_other _ _ _ _ _ _ (by omega)).trans hu), fun hlt => (h4 (by omega)).kept hK (Nat.le_refl _) (fun j _ _ hj _ _ => by simp only [one]; omega), fun hle => h5 (by omega), h6⟩
theorem row_agree {B T z : Nat} {w w' : World} {v : Value} {n : Nat} {xs : List Value} (h : w.ownsRow B T z v n xs) (hag : ∀ k, B ≤ k → k < w.heap.size → w'.heap[k]? = w.heap[k]?) : w'.ownsRow B T z v n xs := by
  refine ⟨h.1, ?_⟩
  rcases h.2 with hn | ⟨g, cp, cur, e1, e2, e3, rest⟩
  · exact .inl hn
  · exact .inr ⟨g, cp, cur, e1, e2, (hag g e2 (Array.getElem?_eq_some_iff.1 e3).1).trans e3, rest⟩
theorem OwnItem.agree {B : Nat} {w w' : World} {v : Value} {x : Itm} (h : OwnItem B w v x) (hag : ∀ k, B ≤ k → k < w.heap.size → w'.heap[k]? = w.heap[k]?) : OwnItem B w' v x := by
  obtain ⟨a1, c1, a2, c2, a3, c3, h0, h1, h2, h3⟩ := h
  exact ⟨a1, c1, a2, c2, a3, c3, h0, row_agree h1 hag, row_agree h2 hag, row_agree h3 hag⟩
theorem OwnSp.agree {B : Nat} {w w' : World} {V : Value} {l : List (Ent × Sls)} (h : OwnSp B w V l) (hag : ∀ k, B ≤ k → k < w.heap.size → w'.heap[k]? = w.heap[k]?) : OwnSp B w' V l :=
  ⟨row_agree h.row hag, fun y hy => (h.its y hy).agree hag⟩
/-- a space whose memory lies from a block on -/
def SpaceFrom (B : Nat) (w : World) (a : Option Addr) (s : List Ent) : Prop := ∀ w', (∀ k, B ≤ k → k < w.heap.size → w'.heap[k]? = w.heap[k]?) → SpaceAt w' a s
theorem SpaceFrom.at {B : Nat} {w : World} {a : Option Addr} {s : List Ent} (h : SpaceFrom B w a s) : SpaceAt w a s := h w (fun _ _ _ => rfl)
theorem CopAt.space {w wr : World} {s : List Ent} {g : Nat} (h : CopAt w s g s.length wr) : SpaceFrom w.heap.size wr (some ⟨g, 0, none⟩) s := by
  intro w' hag
  refine .inr ⟨g, 0, rfl, fun i hi => ?_⟩
  obtain ⟨q, hE, ho, -, w0, v0, hz⟩ := h.c i hi
  obtain ⟨h0, h1, h2, h3, h4, h5, h6⟩ := hE.moved (fun j u _ hu => (World.cell?_of_block (w := wr) (w' := w') (a := ⟨g, i * 7 + j, none⟩) (hag g h.lo h.hi)).trans hu)
  rw [Nat.zero_add]
  exact ⟨_, _, _, _, _, _, ⟨h0, h1, h2, h3, h4, h5, h6⟩, item_ofOwn ((ho hi).agree (fun k hk hk2 => hag k (by have := h.lo; omega) hk2)) hz⟩
theorem CopAt.start {w w1 : World} {s : List Ent} {g cp : Nat} {L : List (Ent × Sls)} (hb : Below w.heap.size w w1) (hL : L.map Prod.fst = s) (hI : ∀ y ∈ L, ItemIs w (itemV y.1.item y.2) y.1.item) (ho : w1.ownsRow w.heap.size 42 7 (.slice (some ⟨g, 0, none⟩) s.length cp) s.length (rowE L)) : CopAt w s g 0 w1 := by
  subst hL
  rcases ho.2 with ⟨h1, _⟩ | ⟨g', cp', cur, h1, h2, h3, h4, h5, h6, h7⟩
  · cases h1
  · injection h1 with h1 _ _
    injection h1 with h1
    injection h1 with h1
    subst h1
    have hc : ∀ j u, (rowE L)[j]? = some u → w1.cell? ⟨g, j, none⟩ = some u := fun j u hj => by
      have e : cur[j]? = some u := by
        rw [← h7, List.getElem?_take] at hj
        split at hj
        · simpa using hj
        · cases hj
      simp [World.cell?, h3, e]
    refine ⟨hb, h2, (Array.getElem?_eq_some_iff.1 h3).1, fun o ho => by simp [World.frozen?, h3], fun i hi => ?_⟩
    have hi' : i < L.length := by simpa using hi
    have hget := fun j (hj : j < 7) => rowE_get L i j hi' hj
    have e : (L.map Prod.fst)[i] = L[i].1 := by simp
    rw [e]
    refine ⟨L[i].2, ⟨?_, ?_, ?_, ?_, ?_, ?_, ?_⟩, fun h => absurd h (by omega), fun _ => hI _ (List.getElem_mem hi'), _, _, hI _ (List.getElem_mem hi')⟩
    · exact hc _ _ ((hget 0 (by omega)).trans rfl)
    · exact hc _ _ ((hget 1 (by omega)).trans rfl)
    · exact hc _ _ ((hget 2 (by omega)).trans rfl)
    · exact hc _ _ ((hget 3 (by omega)).trans rfl)
    · exact hc _ _ ((hget 4 (by omega)).trans rfl)
    · exact hc _ _ ((hget 5 (by omega)).trans rfl)
    · exact hc _ _ ((hget 6 (by omega)).trans rfl)
set_option maxRecDepth 100000 in
set_option maxHeartbeats 8000000 in
theorem copied_some (a : Option Addr) (c : Nat) (s : List Ent) (w : World) (hne : s ≠ []) (hs : SpaceAt w a s) (hn : s.length ≤ 1000000) (hf : ∀ x ∈ s, Fits x.item) :
    Calls Tryz.prog 13 #[.slice a s.length c] w fun e w' => (∃ a' c', e = .returned (.slice a' s.length c') ∧ SpaceFrom w.heap.size w' a' s) ∧ Below w.heap.size w w' := by
  obtain ⟨g0, o0, rfl, hcs⟩ := hs.resolve_left hne
  obtain ⟨L, hL, hr, hI⟩ := sls_of s o0 hcs
  have HC := hide (cloneS_some ⟨g0, o0, none⟩ c s L w hL (fun j u hj => by
    have e : (⟨g0, o0, none⟩ : Addr).add j = ⟨g0, o0 + j, none⟩ := by
      unfold Addr.add
      split
      · rename_i h; subst h; rfl
      · rfl
    rw [e]
    exact hr j u hj) hn)
  have HST := hide (fun w1 g cp (hb : Below w.heap.size w w1) ho => CopAt.start (w1 := w1) (g := g) (cp := cp) hb hL hI ho)
  clear hcs hr
  go_enter Tryz.func13, Tryz.ntmps13
  go_wp2_with fail
  refine HC.out.mono ?_
  rintro e w1 ⟨v, rfl, ho, hb1⟩
  obtain ⟨g, cp, rfl⟩ : ∃ g cp, v = .slice (some ⟨g, 0, none⟩) s.length cp := by
    rcases ho.2 with ⟨_, h2⟩ | ⟨g', cp', cur, h1, _⟩
    · exact absurd (List.eq_nil_of_length_eq_zero h2) hne
    · exact ⟨_, _, h1⟩
  have HS := hide (HST.out w1 g cp hb1 ho)
  clear ho hb1 HST HC hI hL
  go_wp2_with fail
  go_loopw [8] (fun iv wr => ∃ k : Nat, k ≤ s.length ∧ iv = .int .i64 k ∧ Hid (CopAt w s g k wr)) (fun iv _ => s.length - (intOf iv).toNat)
  case atStart => exact ⟨0, Nat.zero_le _, rfl, HS⟩
  case round =>
    obtain ⟨k, hk, rfl, HR⟩ := hrel
    obtain ⟨wo, hwo⟩ : ∃ wo, wo = wr := ⟨wr, rfl⟩
    subst hwo
    by_cases hlt : k < s.length
    · have hlt' : ((k : Nat) : Int) < ((s.length : Nat) : Int) := by omega
      obtain ⟨q, ⟨d0, d1, d2, d3, d4, d5, d6⟩, -, hI, -⟩ := HR.out.c k hlt
      have hI := (hI (Nat.le_refl _)).below HR.out.be
      have hF := hf s[k] (List.getElem_mem hlt)
      have HCP := hide (copy_any (itemV s[k].item q) s[k].item wo hI hF.1 hF.2.1 hF.2.2)
      have HSTP := hide (fun w2 q2 (hb : Below wo.heap.size wo w2) ho => HR.out.step hlt (w2 := w2) (q := q2) hb ho)
      have HFR := hide HR.out.fr
      have hgw := HR.out.hi
      have HGW := hide hgw
      have HDD := hide (And.intro d1 (And.intro d2 (And.intro d3 (And.intro d4 d5))))
      clear hI hF hgw
      generalize s[k] = X at *
      obtain ⟨⟨q1, e1⟩, ⟨q2, e2⟩, ⟨q3, e3⟩⟩ := q
      simp only at d0 d1 d2 d3 d4 d5 d6
      unfold itemV at HCP
      simp only at HCP
      go_wp2_with fail
      refine HCP.out.mono ?_
      rintro e w2 ⟨v', rfl, ho, hb2⟩
      obtain ⟨⟨⟨p1, f1⟩, ⟨p2, f2⟩, ⟨p3, f3⟩⟩, rfl, ho⟩ := ho.sls
      have HNEW := hide (HSTP.out w2 _ hb2 ho)
      unfold put5 at HNEW
      unfold itemV
      simp only at HNEW ⊢
      have m1 := (hb2.cell (p := ⟨g, k * 7 + 1, none⟩) HGW.out).trans HDD.out.1
      have m2 := (hb2.cell (p := ⟨g, k * 7 + 2, none⟩) HGW.out).trans HDD.out.2.1
      have m3 := (hb2.cell (p := ⟨g, k * 7 + 3, none⟩) HGW.out).trans HDD.out.2.2.1
      have m4 := (hb2.cell (p := ⟨g, k * 7 + 4, none⟩) HGW.out).trans HDD.out.2.2.2.1
      have m5 := (hb2.cell (p := ⟨g, k * 7 + 5, none⟩) HGW.out).trans HDD.out.2.2.2.2
      have z1 := (hb2.frozen (p := ⟨g, k * 7 + 1, none⟩) HGW.out).trans (HFR.out _ (by omega))
      have z2 := (hb2.frozen (p := ⟨g, k * 7 + 2, none⟩) HGW.out).trans (HFR.out _ (by omega))
      have z3 := (hb2.frozen (p := ⟨g, k * 7 + 3, none⟩) HGW.out).trans (HFR.out _ (by omega))
      have z4 := (hb2.frozen (p := ⟨g, k * 7 + 4, none⟩) HGW.out).trans (HFR.out _ (by omega))
      have z5 := (hb2.frozen (p := ⟨g, k * 7 + 5, none⟩) HGW.out).trans (HFR.out _ (by omega))
      clear d0 d1 d2 d3 d4 d5 d6 hb2 ho
      go_wp2_with fail
      go_roundw
      case rel => exact ⟨k + 1, by omega, by go_num, HNEW⟩
      case measure => simp [intOf]; omega
    · have hge : ¬ ((k : Nat) : Int) < ((s.length : Nat) : Int) := by omega
      obtain rfl : k = s.length := by omega
      have hsp := HR.out.space
      have HSP := hide (And.intro hsp HR.out.be)
      clear hsp
      go_wp2_with fail
      go_ret
      exact ⟨⟨_, ⟨cp, rfl⟩, HSP.out.1⟩, HSP.out.2⟩
set_option maxRecDepth 100000 in
set_option maxHeartbeats 2000000 in
theorem copied_none (a : Option Addr) (w : World) (c : Nat) :
    Calls Tryz.prog 13 #[.slice a 0 c] w fun e w' => (∃ a' c', e = .returned (.slice a' 0 c')) ∧ Below w.heap.size w w' := by
  have HC : Hid (Calls Tryz.prog 25 #[.slice a 0 c] w fun e w' => (∃ a' c', e = .returned (.slice a' 0 c')) ∧ Below w.heap.size w w') := by
    cases a with
    | none => exact (cloneS_none w c).mono fun _ _ ⟨h1, h2⟩ => ⟨⟨_, _, h1⟩, h2 ▸ Below.refl _ _⟩
    | some ad =>
      refine (cloneS_some ad c [] [] w rfl (fun j u hj => by simp [rowE] at hj) (by simp)).mono fun e w' ⟨v, h1, h2, h3⟩ => ?_
      obtain ⟨ao, cp, rfl⟩ := slice_ownY h2
      exact ⟨⟨ao, cp, h1⟩, h3⟩
  go_enter Tryz.func13, Tryz.ntmps13
  go_wp2_with fail
  refine HC.out.mono ?_
  rintro e w1 ⟨⟨a', c', rfl⟩, hb1⟩
  go_wp2_with fail
  refine wp_loop_rounds 1 ?_
  rw [rounds_succ]
  go_wp2_with fail
  go_ret
  exact ⟨⟨a', c', rfl⟩, hb1⟩
theorem copied_any (a : Option Addr) (c : Nat) (s : List Ent) (w : World) (hs : SpaceAt w a s) (hn : s.length ≤ 1000000) (hf : ∀ x ∈ s, Fits x.item) :
    Calls Tryz.prog 13 #[.slice a s.length c] w fun e w' => (∃ a' c', e = .returned (.slice a' s.length c') ∧ SpaceFrom w.heap.size w' a' s) ∧ Below w.heap.size w w' := by
  by_cases hne : s = []
  · subst hne
    exact (copied_none a w c).mono fun _ _ ⟨⟨a', c', h⟩, hb⟩ => ⟨⟨a', c', h, fun _ _ => .inl rfl⟩, hb⟩
  · exact copied_some a c s w hne hs hn hf
end Go.Proofs.YtmaancidkpfopaaGreatDoor

/- WALKS of the keeper of a space: put, drop, has. -/
namespace Go.Proofs.YtmaancidkpfopaaGreatDoor
open Go.RowKit

theorem OwnSp.keptOne {B b : Nat} {w w' : World} {V : Value} {l : List (Ent × Sls)} (h : OwnSp B w V l) (hk : Kept (one b) w w') (hb : b < B) : OwnSp B w' V l :=
  ⟨hk.owns h.row (fun j hj e => by have := (h.row.lt j hj).1; simp only [one] at e; omega), fun y hy => (h.its y hy).kept hk (Nat.le_refl _) (fun k _ _ hk2 _ _ => by simp only [one]; omega)⟩
/-- a keeper that lies in memory, whatever some blocks hold -/
def KeepS (S : Nat → Prop) (w : World) (b : Nat) (s : List Ent) (now : Int) : Prop := ∀ w', (∀ k, k < w.heap.size → ¬ S k → w'.heap[k]? = w.heap[k]?) → KeepAt w' b s now
theorem KeepS.at {S : Nat → Prop} {w : World} {b : Nat} {s : List Ent} {now : Int} (h : KeepS S w b s now) : KeepAt w b s now := h w (fun _ _ _ => rfl)
theorem KeepS.below {S : Nat → Prop} {w w' : World} {b : Nat} {s : List Ent} {now : Int} (h : KeepS S w b s now) (hb : Below w.heap.size w w') : KeepS S w' b s now :=
  fun w2 h2 => h w2 (fun k hk hS => (h2 k (Nat.lt_of_lt_of_le hk hb.size) hS).trans (hb.block k hk))
theorem KeepS.new {S : Nat → Prop} {B : Nat} {w V : World} {a : Option Addr} {c : Nat} {s : List Ent} {now : Int} (h : SpaceFrom B w a s) (hn : s.length ≤ 281474976710656) (hV : Below w.heap.size w V) (hB : B ≤ w.heap.size) (hK : V.heap[w.heap.size]? = some (.cells #[.slice a s.length c, .int .i64 now] 54 (0, 0)))
    (hS : ∀ k, S k → k < B ∨ V.heap.size ≤ k) : KeepS S V w.heap.size s now := by
  intro w' hag
  have hk : w.heap.size < V.heap.size := (Array.getElem?_eq_some_iff.1 hK).1
  refine ⟨⟨a, c, (hag _ hk (fun h => by rcases hS _ h with h | h <;> omega)).trans hK, h w' (fun k h1 h2 => ?_)⟩, hn⟩
  exact (hag k (by omega) (fun h => by rcases hS _ h with h | h <;> omega)).trans (hV.block k h2)
/-- what a keeper keeps behind a put -/
def keptS (s : List Ent) (now : Int) (key : ByteArray) (x : Itm) (til : Int) : List Ent := if putE s now key x til = 0 then putS s now key x til else s
set_option maxRecDepth 100000 in
set_option maxHeartbeats 16000000 in
theorem keepPut_any (b : Nat) (s : List Ent) (now : Int) (key : ByteArray) (v : Value) (x : Itm) (til : Int) (w : World) (h : KeepAt w b s now) (hx : ItemIs w v x) :
    Calls Tryz.prog 73 #[.pointer (some ⟨b, 0, none⟩), .string key, v, .int .i64 til] w fun e w' => e = .returned (.int .i64 (putE s now key x til)) ∧ (∀ S, (∀ k, S k → k < w.heap.size ∧ k ≠ b) → KeepS S w b s now → KeepS S w' b (keptS s now key x til) now) ∧ Kept (one b) w w' := by
  have HKA := hide h
  obtain ⟨⟨a, c, hh, hs⟩, hn⟩ := h
  obtain ⟨a1, c1, a2, c2, a3, c3, rfl⟩ := shapeE hx
  have k0 : w.cell? ⟨b, 0, none⟩ = some (.slice a s.length c) := by simp [World.cell?, hh]
  have k1 : w.cell? ⟨b, 1, none⟩ = some (.int .i64 now) := by simp [World.cell?, hh]
  have hbl : b < w.heap.size := (Array.getElem?_eq_some_iff.1 hh).1
  have HBL := hide hbl
  have HU : Hid (∀ W, Below w.heap.size w W → Calls Tryz.prog 161 #[.slice a s.length c, .int .i64 now, .string key, .agg #[.int .i64 x.k, .string x.t, .slice a1 x.l.length c1, .slice a2 x.p.length c2, .slice a3 x.s.length c3], .int .i64 til] W fun e w' => (∃ ao co l, e = .returned (.tuple #[.slice ao (putS s now key x til).length co, .int .i64 (putE s now key x til)]) ∧ l.map Prod.fst = putS s now key x til ∧ OwnSp W.heap.size w' (.slice ao (putS s now key x til).length co) l) ∧ Below W.heap.size W w') := fun W hW => put_tells a c s now key _ x til W (hs.below hW) hn (hx.below hW)
  have HPR := hide (putS_right s now key x til)
  have HH := hide hh
  obtain ⟨V, hV, AV, XB⟩ : ∃ V, w.alloc (.cells #[.int .i64 x.k, .string x.t, .slice a1 x.l.length c1, .slice a2 x.p.length c2, .slice a3 x.s.length c3] 40) = V ∧ Below w.heap.size w V ∧ V.heap[w.heap.size]? = some (.cells #[.int .i64 x.k, .string x.t, .slice a1 x.l.length c1, .slice a2 x.p.length c2, .slice a3 x.s.length c3] 40) := ⟨_, rfl, (Below.refl _ w).alloc (Nat.le_refl _) _, by show (w.heap.push _)[w.heap.size]? = _; simp⟩
  have hxz : w.heap.size < V.heap.size := (Array.getElem?_eq_some_iff.1 XB).1
  have B0 : Below w.heap.size w V.drew := AV.drew
  have HB0 := hide B0
  have HKS : Hid (keptS s now key x til = if putE s now key x til = 0 then putS s now key x til else s) := rfl
  have HD := hide (fun (W : World) (hW : Below V.heap.size V W) => (⟨(hW.cell (p := ⟨b, 0, none⟩) (Nat.lt_trans hbl hxz)).trans ((AV.cell (p := ⟨b, 0, none⟩) hbl).trans k0), (hW.cell (p := ⟨b, 1, none⟩) (Nat.lt_trans hbl hxz)).trans ((AV.cell (p := ⟨b, 1, none⟩) hbl).trans k1), (hW.cell (p := ⟨w.heap.size, 0, none⟩) hxz).trans (by simp [World.cell?, XB]), (hW.cell (p := ⟨w.heap.size, 1, none⟩) hxz).trans (by simp [World.cell?, XB]), (hW.cell (p := ⟨w.heap.size, 2, none⟩) hxz).trans (by simp [World.cell?, XB]), (hW.cell (p := ⟨w.heap.size, 3, none⟩) hxz).trans (by simp [World.cell?, XB]), (hW.cell (p := ⟨w.heap.size, 4, none⟩) hxz).trans (by simp [World.cell?, XB])⟩ : W.cell? ⟨b, 0, none⟩ = some (.slice a s.length c) ∧ W.cell? ⟨b, 1, none⟩ = some (.int .i64 now) ∧ W.cell? ⟨w.heap.size, 0, none⟩ = some (.int .i64 x.k) ∧ W.cell? ⟨w.heap.size, 1, none⟩ = some (.string x.t) ∧ W.cell? ⟨w.heap.size, 2, none⟩ = some (.slice a1 x.l.length c1) ∧ W.cell? ⟨w.heap.size, 3, none⟩ = some (.slice a2 x.p.length c2) ∧ W.cell? ⟨w.heap.size, 4, none⟩ = some (.slice a3 x.s.length c3)))
  obtain ⟨d0, d1, d2, d3, d4, d5, d6⟩ := HD.out V (Below.refl _ V)
  have HAV := hide AV
  clear hh hs B0 XB k0 k1 hx AV hbl
  generalize putS s now key x til = S2 at *
  generalize putE s now key x til = E at *
  go_enter Tryz.func73, Tryz.ntmps73
  go_wp2_with fail
  clear hV
  have hVd : Below V.heap.size V V.drew := (Below.refl _ V).drew
  have HVD := hide hVd
  clear hVd
  go_region_held3 (fun w' => w'.cell? ⟨b, 0, none⟩ = some (.slice a s.length c) ∧ w'.cell? ⟨b, 1, none⟩ = some (.int .i64 now) ∧ w'.cell? ⟨w.heap.size, 0, none⟩ = some (.int .i64 x.k) ∧ w'.cell? ⟨w.heap.size, 1, none⟩ = some (.string x.t) ∧ w'.cell? ⟨w.heap.size, 2, none⟩ = some (.slice a1 x.l.length c1) ∧ w'.cell? ⟨w.heap.size, 3, none⟩ = some (.slice a2 x.p.length c2) ∧ w'.cell? ⟨w.heap.size, 4, none⟩ = some (.slice a3 x.s.length c3)) (go_keep)
    ((go_at_call 161; refine (HU.out _ HB0.out).mono ?_; rintro e w9 ⟨⟨ao, co, l, rfl, hl9, ho9⟩, hb9⟩; obtain ⟨q0, q1, q2, q3, q4, q5, q6⟩ := HD.out w9 (HVD.out.trans hb9)))
  all_goals
    clear q2 q3 q4 q5 q6 d0 d1 d2 d3 d4 d5 d6
    have hbb : Below w.heap.size w w9 := HB0.out.trans (hb9.mono HB0.out.size)
    have hh9 : w9.heap[b]? = some (.cells #[.slice a s.length c, .int .i64 now] 54 (0, 0)) := (hbb.block _ HBL.out).trans HH.out
    by_cases hE : E = 0
    · have hE' : (E == 0) = true := by rw [hE]; rfl
      have hf0 : w9.frozen? ⟨b, 0, none⟩ = false := by simp [World.frozen?, hh9]
      have HW := hide (And.intro hbb hh9)
      have HO := hide (And.intro hl9 ho9)
      clear hbb hh9 hl9 ho9 hb9
      go_wp2_with fail
      go_ret
      have hKs : Kept (one b) w9 (w9.setCell ⟨b, 0, none⟩ (.slice ao S2.length co)) := (Kept.refl (one b) w9).set1 0 _
      have hbV : b < V.drew.heap.size := Nat.lt_of_lt_of_le HBL.out HAV.out.size
      refine ⟨rfl, fun S hS _ w2 hag => ?_, (Kept.of_below HW.out.1 (one b)).set1 0 _⟩
      have hb9 : b < w9.heap.size := (Array.getElem?_eq_some_iff.1 HW.out.2).1
      have hz9 : (w9.setCell ⟨b, 0, none⟩ (.slice ao S2.length co)).heap.size = w9.heap.size := by simp [World.setCell]
      rw [HKS.out, if_pos hE]
      refine ⟨⟨ao, co, (hag b (by rw [hz9]; exact hb9) (fun h => (hS b h).2 rfl)).trans (by rw [setCell_heapY HW.out.2 0 _]; rfl), ?_⟩, by have := HPR.out.n; omega⟩
      refine ((HO.out.2.keptOne hKs hbV).agree (fun k hk hk2 => hag k hk2 (fun h => ?_))).space HO.out.1 HPR.out
      have h1 := (hS k h).1
      have h2 : w.heap.size ≤ V.drew.heap.size := HAV.out.size
      omega
    · have hE' : (E == 0) = false := by rw [beq_eq_false_iff_ne]; exact hE
      have HW := hide hbb
      clear hbb hh9 hl9 ho9 hb9
      go_wp2_with fail
      go_ret
      refine ⟨rfl, fun S _ hK => ?_, Kept.of_below HW.out (one b)⟩
      rw [HKS.out, if_neg hE]
      exact hK.below HW.out
/-- nothing lies in memory, everywhere -/
theorem zeroItE (w : World) : ItemIs w (.agg #[.int .i64 0, .string ⟨#[]⟩, .slice none 0 0, .slice none 0 0, .slice none 0 0]) Itm.none :=
  ⟨⟨none, 0, none, 0, none, 0, rfl, .inl rfl, .inl rfl, .inl rfl⟩, Nat.zero_le _, (fun _ h => by cases h), (fun _ h => by cases h), (fun _ h => by cases h), Nat.zero_le _, Nat.zero_le _, Nat.zero_le _⟩
set_option maxRecDepth 100000 in
set_option maxHeartbeats 4000000 in
theorem keepDrop_any (b : Nat) (s : List Ent) (now : Int) (key : ByteArray) (w : World) (h : KeepAt w b s now) :
    Calls Tryz.prog 149 #[.pointer (some ⟨b, 0, none⟩), .string key] w fun e w' => e = .returned (.int .i64 (putE s now key Itm.none 0)) ∧ (∀ S, (∀ k, S k → k < w.heap.size ∧ k ≠ b) → KeepS S w b s now → KeepS S w' b (keptS s now key Itm.none 0) now) ∧ Kept (one b) w w' := by
  have HP := hide (keepPut_any b s now key _ Itm.none 0 w h (zeroItE w))
  clear h
  generalize keptS s now key Itm.none 0 = S2 at *
  generalize putE s now key Itm.none 0 = E at *
  go_enter Tryz.func149, Tryz.ntmps149
  go_wp2_with fail
  refine HP.out.mono ?_
  rintro e w1 ⟨rfl, hk, hb⟩
  have HK := hide (And.intro hk hb)
  clear hk hb
  go_wp2_with fail
  go_ret
  exact ⟨rfl, HK.out.1, HK.out.2⟩
set_option maxRecDepth 100000 in
set_option maxHeartbeats 4000000 in
theorem keepHas_any (b : Nat) (s : List Ent) (now : Int) (key : ByteArray) (w : World) (h : KeepAt w b s now) :
    Calls Tryz.prog 148 #[.pointer (some ⟨b, 0, none⟩), .string key] w fun e w' => e = .returned (.bool (!(getR s now key).isNone)) ∧ Below w.heap.size w w' := by
  have HI := hide (keepItem_any b s now key w h)
  have HN : Hid (∀ W v, ItemIs W v (getR s now key) → Calls Tryz.prog 160 #[v] W fun e w' => e = .returned (.bool (getR s now key).isNone) ∧ Below W.heap.size W w') := fun W v hv => by
    obtain ⟨a1, c1, a2, c2, a3, c3, rfl⟩ := shapeE hv
    rw [← isNone_len]
    exact isNothing_any _ _ _ _ _ _ _ _ _ _ _ W
  clear h
  generalize getR s now key = X at *
  go_enter Tryz.func148, Tryz.ntmps148
  go_wp2_with fail
  refine HI.out.mono ?_
  rintro e w1 ⟨⟨v, rfl, hi⟩, hb1⟩
  go_wp2_with fail
  refine (HN.out _ _ hi).mono ?_
  rintro e w2 ⟨rfl, hb2⟩
  have HB := hide (hb1.trans (hb2.mono hb1.size))
  clear hi hb1 hb2
  go_wp2_with fail
  go_ret
  exact ⟨rfl, HB.out⟩
end Go.Proofs.YtmaancidkpfopaaGreatDoor

