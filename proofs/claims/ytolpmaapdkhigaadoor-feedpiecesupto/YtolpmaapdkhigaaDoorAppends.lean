/- Appending commands to commands. -/
import Derived.Test.YtolpmaapdkhigaaDoorBegun
namespace Go.Proofs.YtolpmaapdkhigaaDoor
open Go.RowKit

/-- as Cmds, the rows of the words from another block on -/
def Cmds2 (bo bi : Nat) (w : World) (V : Value) (L : List (List (List UInt8))) : Prop :=
  ∃ vs : List Value, w.ownsRow bo 42 1 V L.length vs ∧ ∀ i (h : i < L.length), ∃ v, vs[i]? = some v ∧ w.ownsRow bi 9 1 v L[i].length (L[i].map str)

theorem Cmds.two {base : Nat} {w : World} {V : Value} {L : List (List (List UInt8))} (h : Cmds base w V L) : Cmds2 base 0 w V L := by
  obtain ⟨vs, h1, h2⟩ := h
  refine ⟨vs, h1, fun i hi => ?_⟩
  obtain ⟨v, h3, h4⟩ := h2 i hi
  exact ⟨v, h3, ownsRow_base h4 (Nat.zero_le _)⟩
theorem Cmds2.at_ {w : World} {bo bi : Nat} {V : Value} {L : List (List (List UInt8))} (h : Cmds2 bo bi w V L) : CmdsAt w V L := by
  obtain ⟨vs, h1, h2⟩ := h
  rcases h1.2 with ⟨rfl, h0⟩ | ⟨g, cap, cur, rfl, _⟩
  · exact ⟨none, 0, by rw [h0], .inl (List.eq_nil_of_length_eq_zero h0)⟩
  · refine ⟨_, cap, rfl, .inr ⟨g, 0, rfl, fun i hi => ?_⟩⟩
    obtain ⟨v, h3, h4⟩ := h2 i hi
    have := h1.cellAt i (by omega)
    exact ⟨v, by rw [Nat.zero_add, this, h3], texts_of_own h4⟩
theorem Cmds2.kept {bo bi : Nat} {w w' : World} {V : Value} {L : List (List (List UInt8))} (h : Cmds2 bo bi w V L) (hk : Below w.heap.size w w') : Cmds2 bo bi w' V L := by
  obtain ⟨vs, h1, h2⟩ := h
  have k := Kept.of_below hk (fun _ => False)
  refine ⟨vs, k.owns h1 (fun _ _ e => e), fun i hi => ?_⟩
  obtain ⟨v, h3, h4⟩ := h2 i hi
  exact ⟨v, h3, k.owns h4 (fun _ _ e => e)⟩
theorem Cmds2.shape {bo bi : Nat} {w : World} {V : Value} {L : List (List (List UInt8))} (h : Cmds2 bo bi w V L) : ∃ ao cp, V = .slice ao L.length cp := by
  obtain ⟨vs, h1, _⟩ := h
  exact shapes h1
theorem Cmds2.lt {bo bi : Nat} {w : World} {V : Value} {L : List (List (List UInt8))} (h : Cmds2 bo bi w V L) : ∀ k, V.ownBlock = some k → bo ≤ k := by
  obtain ⟨vs, h1, _⟩ := h
  exact fun k hk => (h1.lt k hk).1

theorem Cmds2.join {bo : Nat} {w w' : World} {A A' : Value} {La Lb : List (List (List UInt8))} {xs ys : List Value}
    (hA : w.ownsRow bo 42 1 A La.length xs) (hAi : ∀ i (h : i < La.length), ∃ v, xs[i]? = some v ∧ w.ownsRow 0 9 1 v La[i].length (La[i].map str))
    (hBi : ∀ i (h : i < Lb.length), ∃ v, ys[i]? = some v ∧ w.ownsRow 0 9 1 v Lb[i].length (Lb[i].map str))
    (hg : w.grownBy w' A.ownBlock) (hA' : w'.ownsRow bo 42 1 A' (La.length + Lb.length) (xs ++ ys)) : Cmds2 bo 0 w' A' (La ++ Lb) := by
  have hxl : xs.length = La.length := by simpa using hA.1
  refine ⟨xs ++ ys, by simpa using hA', fun i hi => ?_⟩
  by_cases hlt : i < La.length
  · obtain ⟨u, h3, h4⟩ := hAi i hlt
    refine ⟨u, ?_, ?_⟩
    · rw [List.getElem?_append_left (by omega)]; exact h3
    · rw [List.getElem_append_left hlt]
      exact h4.kept hg (owns_apart h4 hA (by decide))
  · have hi2 : i - La.length < Lb.length := by simp at hi; omega
    obtain ⟨u, h3, h4⟩ := hBi (i - La.length) hi2
    refine ⟨u, ?_, ?_⟩
    · rw [List.getElem?_append_right (by omega), hxl]; exact h3
    · rw [List.getElem_append_right (by omega)]
      exact h4.kept hg (owns_apart h4 hA (by decide))

theorem oneCells {w : World} {bi : Nat} {Lb : List (List (List UInt8))} {ys : List Value} (hl : ys.length = Lb.length) (hBi : ∀ i (h : i < Lb.length), ∃ v, ys[i]? = some v ∧ w.ownsRow bi 9 1 v Lb[i].length (Lb[i].map str)) : ∀ u ∈ ys, u.oneCell' = true := by
  intro u hu
  obtain ⟨i, hi, rfl⟩ := List.getElem_of_mem hu
  obtain ⟨v, h1, h2⟩ := hBi i (by omega)
  rw [List.getElem?_eq_getElem hi] at h1
  obtain ⟨ao, cp, hv⟩ := shapes h2
  rw [Option.some.inj h1, hv]
  rfl

/-- append of commands to commands of the call's own, as one operation -/
theorem wp_append_cmds {w : World} {o : Oper} {a : Act} {K : Act → World → Prop} {Q : Exit → Act → World → Prop} (s x : Operand)
    (ho : o.op = .call { callee := .builtin .append, args := #[s, x], argTypes := #[36, 36] })
    (bo bo' : Nat) (A V : Value) (La Lb : List (List (List UInt8))) (hs : a.eval s = A) (hx : a.eval x = V) (hA : Cmds2 bo 0 w A La) (hB : Cmds2 bo' 0 w V Lb)
    (hlen : La.length + Lb.length ≤ 1000000000) (hbase : bo ≤ w.heap.size)
    (h : ∀ A' w', Cmds2 bo 0 w' A' (La ++ Lb) → Below bo w w' → K (a.put o.dst A') w') : o.wp Tryd.prog a w K Q := by
  obtain ⟨i0, hi, hz0, hz1, hz2⟩ := info_parts info36
  obtain ⟨xs, hA1, hA2⟩ := hA
  obtain ⟨ys, hB1, hB2⟩ := hB
  rcases hB1.2 with ⟨hV, h0⟩ | ⟨g, cap, cur, hV, _, hgg, rest⟩
  · have hr := run_append_owned_none (P := Tryd.prog) w bo 36 o.type 42 i0 1 Tryd.underlying36 hi A La.length xs hA1
    unfold Oper.wp execOp
    simp only [ho, resolve, invoke, builtin, Sem.run_bind, Sem.run_pure, Result.andThen_ok, List.map_toArray, List.map_cons, List.map_nil, hs, hx, hV, hr]
    have hL : Lb = [] := List.eq_nil_of_length_eq_zero h0
    subst hL
    exact h A w ⟨xs, by simpa using hA1, by simpa using hA2⟩ (Below.refl _ _)
  · refine wp_append_own (P := Tryd.prog) w s x 36 ho bo 42 i0 (.slice none 0 0) 1 24 Tryd.underlying36 hi hz0 hz1 hz2 rfl (by decide) A La.length xs hs hA1 ⟨g, 0, none⟩ Lb.length cap ys (hx.trans hV) hB1.1 ?_ (oneCells (by simpa using hB1.1) hB2) (by unfold maxLen; omega) (by omega) hbase ?_
    · intro j u hj
      exact hB1.cells (g := g) (by rw [hV]; rfl) j u hj
    · intro A' w' h2 h3 _
      refine h A' w' (Cmds2.join hA1 hA2 hB2 h3 h2) ((Below.refl _ _).grown h3 hbase (fun k hk => (hA1.lt k hk).1))

theorem wpList_append_cmds {w : World} {ops : Array Oper} {rest : List Oper} {o : Oper} {a : Act} {Q : Exit → Act → World → Prop} (hgd : o.guard = none) (s x : Operand)
    (ho : o.op = .call { callee := .builtin .append, args := #[s, x], argTypes := #[36, 36] })
    (bo bo' : Nat) (A V : Value) (La Lb : List (List (List UInt8))) (hs : a.eval s = A) (hx : a.eval x = V) (hA : Cmds2 bo 0 w A La) (hB : Cmds2 bo' 0 w V Lb)
    (hlen : La.length + Lb.length ≤ 1000000000) (hbase : bo ≤ w.heap.size)
    (h : ∀ A' w', Cmds2 bo 0 w' A' (La ++ Lb) → Below bo w w' → wpList Tryd.prog ops Q rest (a.put o.dst A') w') : wpList Tryd.prog ops Q (o :: rest) a w :=
  wpList_plain hgd fun _ hK => wp_append_cmds s x ho bo bo' A V La Lb hs hx hA hB hlen hbase fun A' w' h2 h3 => hK _ _ (h A' w' h2 h3)

/-- .. where a guard says yes -/
theorem wpList_append_cmds_guarded {w : World} {ops : Array Oper} {rest : List Oper} {o : Oper} {a : Act} {Q : Exit → Act → World → Prop} (hgd : Region.wanted o (yielded ops a.tmps) = true) (s x : Operand)
    (ho : o.op = .call { callee := .builtin .append, args := #[s, x], argTypes := #[36, 36] })
    (bo bo' : Nat) (A V : Value) (La Lb : List (List (List UInt8))) (hs : a.eval s = A) (hx : a.eval x = V) (hA : Cmds2 bo 0 w A La) (hB : Cmds2 bo' 0 w V Lb)
    (hlen : La.length + Lb.length ≤ 1000000000) (hbase : bo ≤ w.heap.size)
    (h : ∀ A' w', Cmds2 bo 0 w' A' (La ++ Lb) → Below bo w w' → wpList Tryd.prog ops Q rest (a.put o.dst A') w') : wpList Tryd.prog ops Q (o :: rest) a w :=
  wpList_step fun _ hK => by
    rw [if_pos hgd]
    exact wp_append_cmds s x ho bo bo' A V La Lb hs hx hA hB hlen hbase fun A' w' h2 h3 => hK _ _ (h A' w' h2 h3)

theorem Cmds2.empty (bo : Nat) (w : World) (hb : bo ≤ w.heap.size) : Cmds2 bo 0 (w.alloc (.cells #[] 42)) (.slice (some ⟨w.heap.size, 0, none⟩) 0 0) [] :=
  ⟨[], World.ownsRow_lit w #[] 0 hb (Nat.zero_le _) (by simp), fun i hi => by simp at hi⟩
end Go.Proofs.YtolpmaapdkhigaaDoor
