/- Part 3 of what the proof leans on: YWo, ISame, YChk2, YSw, YFind, YUnt, IEncP, IEnc2, ComR, YOwnI. -/
import Derived.Test.YtmaancidkpfopaaGreatDoorPart2
import Derived.Handy
import Derived.BigQuiet
import Derived.Test.YtmaancidkpfopaaGreatDoorPart1
import Derived.Lib.Builder
import Derived.Lib.AppendStr
import Derived.Lib.UnsafeStr
/- WALKS of spaces: without. -/
namespace Go.Proofs.YtmaancidkpfopaaGreatDoor
open Go.RowKit

set_option maxRecDepth 100000 in
set_option maxHeartbeats 4000000 in
theorem without_swept (b : Nat) (g : Ent → Bool) (a : Option Addr) (c : Nat) (s : List Ent) (w : World) (hs : SpaceAt w a s) (hn : s.length ≤ 1000000) (hf : ∀ x ∈ s, Fits x.item)
    (hg : ∀ x ∈ s, ∀ v W, Below w.heap.size w W → EntIs W v x → Calls Tryz.prog 300 #[v, .pointer (some ⟨b, 0, none⟩)] W fun e w' => e = .returned (.bool (g x)) ∧ Below W.heap.size W w') :
    Calls Tryz.prog 222 #[.slice a s.length c, .func (.func 300) #[] #[.pointer (some ⟨b, 0, none⟩)]] w fun e w' => ∃ V l, e = .returned V ∧ l.map Prod.fst = s.filter (fun x => !g x) ∧ OwnSp w.heap.size w' V l ∧ Below w.heap.size w w' := by
  obtain ⟨iE, hi, hz0, hzE, hz2⟩ := info_parts infoEnt
  have HS := hide hs
  have HG := hide hg
  have HFI := hide hf
  clear hs hg hf
  go_enter Tryz.func222, Tryz.ntmps222
  go_wp2_with fail
  go_loopw [5, 10] (fun V i wr => ∃ (k : Nat) (l : List (Ent × Sls)), k ≤ s.length ∧ i = .int .i64 k ∧ l.length ≤ k ∧ Hid (l.map Prod.fst = (s.take k).filter (fun x => !g x)) ∧ OwnSp w.heap.size wr V l ∧ Below w.heap.size w wr) (fun _ i _ => s.length - (intOf i).toNat)
  case atStart => exact ⟨0, [], Nat.zero_le _, rfl, Nat.le_refl _, rfl, ⟨World.ownsRow_nil _ _ _ _, by simp⟩, Below.refl _ _⟩
  case round =>
    obtain ⟨k, l, hk, rfl, hlk, HL, hown, hbr⟩ := hrel
    have hsz := hbr.size
    by_cases hlt : k < s.length
    · have hlt' : ((k : Nat) : Int) < ((s.length : Nat) : Int) := by omega
      obtain ⟨ga, o, rfl, hcs⟩ : ∃ ga o, a = some ⟨ga, o, none⟩ ∧ ∀ i (h : i < s.length), EntAt w ga (o + i * 7) s[i] := by
        rcases HS.out with h | h
        · rw [h] at hlt; simp at hlt
        · exact h
      obtain ⟨a1, c1, a2, c2, a3, c3, ⟨d0, d1, d2, d3, d4, d5, d6⟩, hi2⟩ := (hcs k hlt).below hbr
      have HFX := hide (HFI.out s[k] (List.getElem_mem hlt))
      have HNX : Hid (∀ l' : List (Ent × Sls), l'.map Prod.fst = (if g s[k] = true then l.map Prod.fst else l.map Prod.fst ++ [s[k]]) → l'.map Prod.fst = (s.take (k + 1)).filter (fun x => !g x)) := fun l' h => by
        rw [h, List.take_succ_eq_append_getElem hlt, List.filter_append, ← HL.out]
        cases hgx : g s[k] <;> simp [hgx]
      have HGX := hide (HG.out s[k] (List.getElem_mem hlt))
      clear hcs HL
      generalize s[k] = X at *
      have CA := (Below.refl wr.heap.size wr).alloc (Nat.le_refl _) (.cells #[.string X.key, .int .i64 X.item.k, .string X.item.t, .slice a1 X.item.l.length c1, .slice a2 X.item.p.length c2, .slice a3 X.item.s.length c3, .int .i64 X.til] 42)
      have AH := allocY_new wr (.cells #[.string X.key, .int .i64 X.item.k, .string X.item.t, .slice a1 X.item.l.length c1, .slice a2 X.item.p.length c2, .slice a3 X.item.s.length c3, .int .i64 X.til] 42)
      obtain ⟨W1, hW1⟩ : ∃ W1, wr.alloc (.cells #[.string X.key, .int .i64 X.item.k, .string X.item.t, .slice a1 X.item.l.length c1, .slice a2 X.item.p.length c2, .slice a3 X.item.s.length c3, .int .i64 X.til] 42) = W1 := ⟨_, rfl⟩
      rw [hW1] at CA AH
      have hz1 : wr.heap.size < W1.heap.size := (Array.getElem?_eq_some_iff.1 AH).1
      have i0 : W1.cell? ⟨wr.heap.size, 0, none⟩ = some (.string X.key) := by simp [World.cell?, AH]
      have i1 : W1.cell? ⟨wr.heap.size, 1, none⟩ = some (.int .i64 X.item.k) := by simp [World.cell?, AH]
      have i2 : W1.cell? ⟨wr.heap.size, 2, none⟩ = some (.string X.item.t) := by simp [World.cell?, AH]
      have i3 : W1.cell? ⟨wr.heap.size, 3, none⟩ = some (.slice a1 X.item.l.length c1) := by simp [World.cell?, AH]
      have i4 : W1.cell? ⟨wr.heap.size, 4, none⟩ = some (.slice a2 X.item.p.length c2) := by simp [World.cell?, AH]
      have i5 : W1.cell? ⟨wr.heap.size, 5, none⟩ = some (.slice a3 X.item.s.length c3) := by simp [World.cell?, AH]
      have i6 : W1.cell? ⟨wr.heap.size, 6, none⟩ = some (.int .i64 X.til) := by simp [World.cell?, AH]
      go_wp2_with fail
      refine (HGX.out _ W1 (hbr.trans (CA.mono hsz)) ⟨a1, c1, a2, c2, a3, c3, rfl, hi2.below CA⟩).mono ?_
      rintro e w2 ⟨rfl, hb2⟩
      have AH2 := (hb2.block _ hz1).trans AH
      have C2 : Below wr.heap.size wr w2 := CA.trans (hb2.mono CA.size)
      have hx2 : wr.heap.size < w2.heap.size := (Array.getElem?_eq_some_iff.1 AH2).1
      clear i0 i1 i2 i3 i4 i5 i6
      clear hb2 CA AH HGX hz1 hW1 d0 d1 d2 d3 d4 d5 d6
      cases hgx : g X with
      | true =>
        have HL2 := hide (HNX.out l (by rw [if_pos hgx]))
        clear hgx HNX
        go_wp2_with fail
        go_roundw
        case rel => exact ⟨k + 1, l, by omega, by go_num, by omega, HL2.out, hown.below C2, hbr.trans (C2.mono hsz)⟩
        case measure => simp [intOf]; omega
      | false =>
        have HL2 : Hid (∀ q : Sls, (l ++ [(X, q)]).map Prod.fst = (s.take (k + 1)).filter (fun x => !g x)) := fun q => HNX.out _ (by rw [if_neg (by simp [hgx])]; simp)
        clear hgx HNX
        have e1 : w2.cell? ⟨wr.heap.size, 1, none⟩ = some (.int .i64 X.item.k) := by simp [World.cell?, AH2]
        have e2 : w2.cell? ⟨wr.heap.size, 2, none⟩ = some (.string X.item.t) := by simp [World.cell?, AH2]
        have e3 : w2.cell? ⟨wr.heap.size, 3, none⟩ = some (.slice a1 X.item.l.length c1) := by simp [World.cell?, AH2]
        have e4 : w2.cell? ⟨wr.heap.size, 4, none⟩ = some (.slice a2 X.item.p.length c2) := by simp [World.cell?, AH2]
        have e5 : w2.cell? ⟨wr.heap.size, 5, none⟩ = some (.slice a3 X.item.s.length c3) := by simp [World.cell?, AH2]
        go_wp2_with fail
        refine (copy_any _ X.item w2 (hi2.below C2) HFX.out.1 HFX.out.2.1 HFX.out.2.2).mono ?_
        rintro e w3 ⟨v3, rfl, ho3, hb3⟩
        obtain ⟨b1, f1, b2, f2, b3, f3, rfl, hr3⟩ := id ho3
        have AH3 := (hb3.block _ hx2).trans AH2
        have C3 : Below wr.heap.size wr w3 := C2.trans (hb3.mono C2.size)
        have hx3 : wr.heap.size < w3.heap.size := (Array.getElem?_eq_some_iff.1 AH3).1
        clear hr3 e1 e2 e3 e4 e5 AH2 
        have e1 : w3.cell? ⟨wr.heap.size, 1, none⟩ = some (.int .i64 X.item.k) := by simp [World.cell?, AH3]
        have z1 : w3.frozen? ⟨wr.heap.size, 1, none⟩ = false := by simp [World.frozen?, AH3]
        have e2 : w3.cell? ⟨wr.heap.size, 2, none⟩ = some (.string X.item.t) := by simp [World.cell?, AH3]
        have z2 : w3.frozen? ⟨wr.heap.size, 2, none⟩ = false := by simp [World.frozen?, AH3]
        have e3 : w3.cell? ⟨wr.heap.size, 3, none⟩ = some (.slice a1 X.item.l.length c1) := by simp [World.cell?, AH3]
        have z3 : w3.frozen? ⟨wr.heap.size, 3, none⟩ = false := by simp [World.frozen?, AH3]
        have e4 : w3.cell? ⟨wr.heap.size, 4, none⟩ = some (.slice a2 X.item.p.length c2) := by simp [World.cell?, AH3]
        have z4 : w3.frozen? ⟨wr.heap.size, 4, none⟩ = false := by simp [World.frozen?, AH3]
        have e5 : w3.cell? ⟨wr.heap.size, 5, none⟩ = some (.slice a3 X.item.s.length c3) := by simp [World.cell?, AH3]
        have z5 : w3.frozen? ⟨wr.heap.size, 5, none⟩ = false := by simp [World.frozen?, AH3]
        have AH4 : (((((w3.setCell ⟨wr.heap.size, 1, none⟩ (.int .i64 X.item.k)).setCell ⟨wr.heap.size, 2, none⟩ (.string X.item.t)).setCell ⟨wr.heap.size, 3, none⟩ (.slice b1 X.item.l.length f1)).setCell ⟨wr.heap.size, 4, none⟩ (.slice b2 X.item.p.length f2)).setCell ⟨wr.heap.size, 5, none⟩ (.slice b3 X.item.s.length f3)).heap[wr.heap.size]? = some (.cells #[.string X.key, .int .i64 X.item.k, .string X.item.t, .slice b1 X.item.l.length f1, .slice b2 X.item.p.length f2, .slice b3 X.item.s.length f3, .int .i64 X.til] 42 (0, 0)) := by
          rw [setCell_heapY (setCell_heapY (setCell_heapY (setCell_heapY (setCell_heapY AH3 1 _) 2 _) 3 _) 4 _) 5 _]; rfl
        have K4 : Kept (one wr.heap.size) w3 (((((w3.setCell ⟨wr.heap.size, 1, none⟩ (.int .i64 X.item.k)).setCell ⟨wr.heap.size, 2, none⟩ (.string X.item.t)).setCell ⟨wr.heap.size, 3, none⟩ (.slice b1 X.item.l.length f1)).setCell ⟨wr.heap.size, 4, none⟩ (.slice b2 X.item.p.length f2)).setCell ⟨wr.heap.size, 5, none⟩ (.slice b3 X.item.s.length f3)) := (((((Kept.refl (one wr.heap.size) w3).set1 1 _).set1 2 _).set1 3 _).set1 4 _).set1 5 _
        have C4 : Below wr.heap.size wr (((((w3.setCell ⟨wr.heap.size, 1, none⟩ (.int .i64 X.item.k)).setCell ⟨wr.heap.size, 2, none⟩ (.string X.item.t)).setCell ⟨wr.heap.size, 3, none⟩ (.slice b1 X.item.l.length f1)).setCell ⟨wr.heap.size, 4, none⟩ (.slice b2 X.item.p.length f2)).setCell ⟨wr.heap.size, 5, none⟩ (.slice b3 X.item.s.length f3)) := ((((C3.setCell (p := ⟨wr.heap.size, 1, none⟩) (Nat.le_refl _) _).setCell (p := ⟨wr.heap.size, 2, none⟩) (Nat.le_refl _) _).setCell (p := ⟨wr.heap.size, 3, none⟩) (Nat.le_refl _) _).setCell (p := ⟨wr.heap.size, 4, none⟩) (Nat.le_refl _) _).setCell (p := ⟨wr.heap.size, 5, none⟩) (Nat.le_refl _) _
        obtain ⟨W4, hW4⟩ : ∃ W4, (((((w3.setCell ⟨wr.heap.size, 1, none⟩ (.int .i64 X.item.k)).setCell ⟨wr.heap.size, 2, none⟩ (.string X.item.t)).setCell ⟨wr.heap.size, 3, none⟩ (.slice b1 X.item.l.length f1)).setCell ⟨wr.heap.size, 4, none⟩ (.slice b2 X.item.p.length f2)).setCell ⟨wr.heap.size, 5, none⟩ (.slice b3 X.item.s.length f3)) = W4 := ⟨_, rfl⟩
        rw [hW4] at AH4 K4 C4
        have hx4 : wr.heap.size < W4.heap.size := (Array.getElem?_eq_some_iff.1 AH4).1
        have g0 : W4.cell? ⟨wr.heap.size, 0, none⟩ = some (.string X.key) := by simp [World.cell?, AH4]
        have g1 : W4.cell? ⟨wr.heap.size, 1, none⟩ = some (.int .i64 X.item.k) := by simp [World.cell?, AH4]
        have g2 : W4.cell? ⟨wr.heap.size, 2, none⟩ = some (.string X.item.t) := by simp [World.cell?, AH4]
        have g3 : W4.cell? ⟨wr.heap.size, 3, none⟩ = some (.slice b1 X.item.l.length f1) := by simp [World.cell?, AH4]
        have g4 : W4.cell? ⟨wr.heap.size, 4, none⟩ = some (.slice b2 X.item.p.length f2) := by simp [World.cell?, AH4]
        have g5 : W4.cell? ⟨wr.heap.size, 5, none⟩ = some (.slice b3 X.item.s.length f3) := by simp [World.cell?, AH4]
        have g6 : W4.cell? ⟨wr.heap.size, 6, none⟩ = some (.int .i64 X.til) := by simp [World.cell?, AH4]
        have hox : OwnItem w.heap.size W4 (itemV X.item ((b1, f1), (b2, f2), (b3, f3))) X.item := (ho3.kept K4 (Nat.le_trans hsz C2.size) (fun j cs T hj _ _ ej => by simp only [one] at ej; omega))
        have hown4 : OwnSp w.heap.size W4 _ l := hown.below C4
        clear ho3 hown
        go_wp2_with (at_builtin; refine wpList_append_own _ rfl _ _ 23 rfl w.heap.size 42 iE (.agg #[.string ⟨#[]⟩, .int .i64 0, .string ⟨#[]⟩, .slice none 0 0, .slice none 0 0, .slice none 0 0, .int .i64 0]) 7 120 Tryz.underlying23 hi hz0 hzE hz2 rfl (by decide) _ _ _ rfl (hown4.row.alloc _) ⟨W4.heap.size, 0, none⟩ 1 1 [.string X.key, .int .i64 X.item.k, .string X.item.t, .slice b1 X.item.l.length f1, .slice b2 X.item.p.length f2, .slice b3 X.item.s.length f3, .int .i64 X.til] rfl rfl ?c1 ?c2 ?c3 ?c4 ?c5 ?_)
        case c1 =>
          intro j u hj
          match j, hj with
          | 0, hj => simp at hj; subst hj; simp [Addr.add]
          | 1, hj => simp at hj; subst hj; simp [Addr.add]
          | 2, hj => simp at hj; subst hj; simp [Addr.add]
          | 3, hj => simp at hj; subst hj; simp [Addr.add]
          | 4, hj => simp at hj; subst hj; simp [Addr.add]
          | 5, hj => simp at hj; subst hj; simp [Addr.add]
          | 6, hj => simp at hj; subst hj; simp [Addr.add]
          | _ + 7, hj => simp at hj
        case c2 => intro u hu; simp at hu; rcases hu with rfl | rfl | rfl | rfl | rfl | rfl | rfl <;> rfl
        case c3 => unfold maxLen; omega
        case c4 => omega
        case c5 => simp; omega
        intro v5 w5 hown5 hgrow _
        have hrA := hown4.row.alloc (.cells #[.string X.key, .int .i64 X.item.k, .string X.item.t, .slice b1 X.item.l.length f1, .slice b2 X.item.p.length f2, .slice b3 X.item.s.length f3, .int .i64 X.til] 42)
        have CX : Below w.heap.size w w5 := by
          have h1 := (hbr.trans (C4.mono hsz)).alloc (Nat.le_trans hsz C4.size) (.cells #[.string X.key, .int .i64 X.item.k, .string X.item.t, .slice b1 X.item.l.length f1, .slice b2 X.item.p.length f2, .slice b3 X.item.s.length f3, .int .i64 X.til] 42)
          exact h1.grown hgrow h1.size (fun j hj => (hrA.lt j hj).1)
        have hown6 : OwnSp w.heap.size w5 v5 (l ++ [(X, ((b1, f1), (b2, f2), (b3, f3)))]) := by
          refine ⟨by simpa [rowE_snoc, cellsE] using hown5, fun y hy => ?_⟩
          have hA : OwnItem w.heap.size (W4.alloc (.cells #[.string X.key, .int .i64 X.item.k, .string X.item.t, .slice b1 X.item.l.length f1, .slice b2 X.item.p.length f2, .slice b3 X.item.s.length f3, .int .i64 X.til] 42)) (itemV y.1.item y.2) y.1.item := by
            have h4 : OwnItem w.heap.size W4 (itemV y.1.item y.2) y.1.item := by
              rcases List.mem_append.1 hy with hy | hy
              · exact hown4.its y hy
              · rw [List.mem_singleton.1 hy]; exact hox
            exact h4.below ((Below.refl _ _).alloc (Nat.le_refl _) _)
          refine hA.kept ((Kept.refl _ _).grown hgrow (S := fun j => some j = u5.ownBlock) (fun j hj => .inl hj.symm)) (Nat.le_refl _) (fun j cs T _ h1 h2 h3 => ?_)
          rcases hrA.2 with ⟨hv, _⟩ | ⟨g', cap', cur', hv, _, hg', _⟩
          · rw [hv] at h3; simp [Value.ownBlock] at h3
          · rw [hv] at h3
            simp [Value.ownBlock] at h3
            subst h3
            rw [hg'] at h1
            simp at h1
            exact h2 h1.2.symm
        clear hown5 hgrow hown4 hox hrA
        go_wp2_with fail
        go_roundw
        case rel => exact ⟨k + 1, _, by omega, by go_num, by simp; omega, HL2.out _, hown6, CX⟩
        case measure => simp [intOf]; omega
    · have hge : ¬ ((k : Nat) : Int) < ((s.length : Nat) : Int) := by omega
      obtain rfl : k = s.length := by omega
      rw [List.take_length] at HL
      go_wp2_with fail
      go_ret
      exact ⟨_, rfl, l, HL.out, hown, hbr⟩
set_option maxRecDepth 100000 in
set_option maxHeartbeats 4000000 in
theorem without_put (b : Nat) (g : Ent → Bool) (a : Option Addr) (c : Nat) (s : List Ent) (w : World) (hs : SpaceAt w a s) (hn : s.length ≤ 1000000) (hf : ∀ x ∈ s, Fits x.item)
    (hg : ∀ x ∈ s, ∀ v W, Below w.heap.size w W → EntIs W v x → Calls Tryz.prog 223 #[v, .pointer (some ⟨b, 0, none⟩)] W fun e w' => e = .returned (.bool (g x)) ∧ Below W.heap.size W w') :
    Calls Tryz.prog 222 #[.slice a s.length c, .func (.func 223) #[] #[.pointer (some ⟨b, 0, none⟩)]] w fun e w' => ∃ V l, e = .returned V ∧ l.map Prod.fst = s.filter (fun x => !g x) ∧ OwnSp w.heap.size w' V l ∧ Below w.heap.size w w' := by
  obtain ⟨iE, hi, hz0, hzE, hz2⟩ := info_parts infoEnt
  have HS := hide hs
  have HG := hide hg
  have HFI := hide hf
  clear hs hg hf
  go_enter Tryz.func222, Tryz.ntmps222
  go_wp2_with fail
  go_loopw [5, 10] (fun V i wr => ∃ (k : Nat) (l : List (Ent × Sls)), k ≤ s.length ∧ i = .int .i64 k ∧ l.length ≤ k ∧ Hid (l.map Prod.fst = (s.take k).filter (fun x => !g x)) ∧ OwnSp w.heap.size wr V l ∧ Below w.heap.size w wr) (fun _ i _ => s.length - (intOf i).toNat)
  case atStart => exact ⟨0, [], Nat.zero_le _, rfl, Nat.le_refl _, rfl, ⟨World.ownsRow_nil _ _ _ _, by simp⟩, Below.refl _ _⟩
  case round =>
    obtain ⟨k, l, hk, rfl, hlk, HL, hown, hbr⟩ := hrel
    have hsz := hbr.size
    by_cases hlt : k < s.length
    · have hlt' : ((k : Nat) : Int) < ((s.length : Nat) : Int) := by omega
      obtain ⟨ga, o, rfl, hcs⟩ : ∃ ga o, a = some ⟨ga, o, none⟩ ∧ ∀ i (h : i < s.length), EntAt w ga (o + i * 7) s[i] := by
        rcases HS.out with h | h
        · rw [h] at hlt; simp at hlt
        · exact h
      obtain ⟨a1, c1, a2, c2, a3, c3, ⟨d0, d1, d2, d3, d4, d5, d6⟩, hi2⟩ := (hcs k hlt).below hbr
      have HFX := hide (HFI.out s[k] (List.getElem_mem hlt))
      have HNX : Hid (∀ l' : List (Ent × Sls), l'.map Prod.fst = (if g s[k] = true then l.map Prod.fst else l.map Prod.fst ++ [s[k]]) → l'.map Prod.fst = (s.take (k + 1)).filter (fun x => !g x)) := fun l' h => by
        rw [h, List.take_succ_eq_append_getElem hlt, List.filter_append, ← HL.out]
        cases hgx : g s[k] <;> simp [hgx]
      have HGX := hide (HG.out s[k] (List.getElem_mem hlt))
      clear hcs HL
      generalize s[k] = X at *
      have CA := (Below.refl wr.heap.size wr).alloc (Nat.le_refl _) (.cells #[.string X.key, .int .i64 X.item.k, .string X.item.t, .slice a1 X.item.l.length c1, .slice a2 X.item.p.length c2, .slice a3 X.item.s.length c3, .int .i64 X.til] 42)
      have AH := allocY_new wr (.cells #[.string X.key, .int .i64 X.item.k, .string X.item.t, .slice a1 X.item.l.length c1, .slice a2 X.item.p.length c2, .slice a3 X.item.s.length c3, .int .i64 X.til] 42)
      obtain ⟨W1, hW1⟩ : ∃ W1, wr.alloc (.cells #[.string X.key, .int .i64 X.item.k, .string X.item.t, .slice a1 X.item.l.length c1, .slice a2 X.item.p.length c2, .slice a3 X.item.s.length c3, .int .i64 X.til] 42) = W1 := ⟨_, rfl⟩
      rw [hW1] at CA AH
      have hz1 : wr.heap.size < W1.heap.size := (Array.getElem?_eq_some_iff.1 AH).1
      have i0 : W1.cell? ⟨wr.heap.size, 0, none⟩ = some (.string X.key) := by simp [World.cell?, AH]
      have i1 : W1.cell? ⟨wr.heap.size, 1, none⟩ = some (.int .i64 X.item.k) := by simp [World.cell?, AH]
      have i2 : W1.cell? ⟨wr.heap.size, 2, none⟩ = some (.string X.item.t) := by simp [World.cell?, AH]
      have i3 : W1.cell? ⟨wr.heap.size, 3, none⟩ = some (.slice a1 X.item.l.length c1) := by simp [World.cell?, AH]
      have i4 : W1.cell? ⟨wr.heap.size, 4, none⟩ = some (.slice a2 X.item.p.length c2) := by simp [World.cell?, AH]
      have i5 : W1.cell? ⟨wr.heap.size, 5, none⟩ = some (.slice a3 X.item.s.length c3) := by simp [World.cell?, AH]
      have i6 : W1.cell? ⟨wr.heap.size, 6, none⟩ = some (.int .i64 X.til) := by simp [World.cell?, AH]
      go_wp2_with fail
      refine (HGX.out _ W1 (hbr.trans (CA.mono hsz)) ⟨a1, c1, a2, c2, a3, c3, rfl, hi2.below CA⟩).mono ?_
      rintro e w2 ⟨rfl, hb2⟩
      have AH2 := (hb2.block _ hz1).trans AH
      have C2 : Below wr.heap.size wr w2 := CA.trans (hb2.mono CA.size)
      have hx2 : wr.heap.size < w2.heap.size := (Array.getElem?_eq_some_iff.1 AH2).1
      clear i0 i1 i2 i3 i4 i5 i6
      clear hb2 CA AH HGX hz1 hW1 d0 d1 d2 d3 d4 d5 d6
      cases hgx : g X with
      | true =>
        have HL2 := hide (HNX.out l (by rw [if_pos hgx]))
        clear hgx HNX
        go_wp2_with fail
        go_roundw
        case rel => exact ⟨k + 1, l, by omega, by go_num, by omega, HL2.out, hown.below C2, hbr.trans (C2.mono hsz)⟩
        case measure => simp [intOf]; omega
      | false =>
        have HL2 : Hid (∀ q : Sls, (l ++ [(X, q)]).map Prod.fst = (s.take (k + 1)).filter (fun x => !g x)) := fun q => HNX.out _ (by rw [if_neg (by simp [hgx])]; simp)
        clear hgx HNX
        have e1 : w2.cell? ⟨wr.heap.size, 1, none⟩ = some (.int .i64 X.item.k) := by simp [World.cell?, AH2]
        have e2 : w2.cell? ⟨wr.heap.size, 2, none⟩ = some (.string X.item.t) := by simp [World.cell?, AH2]
        have e3 : w2.cell? ⟨wr.heap.size, 3, none⟩ = some (.slice a1 X.item.l.length c1) := by simp [World.cell?, AH2]
        have e4 : w2.cell? ⟨wr.heap.size, 4, none⟩ = some (.slice a2 X.item.p.length c2) := by simp [World.cell?, AH2]
        have e5 : w2.cell? ⟨wr.heap.size, 5, none⟩ = some (.slice a3 X.item.s.length c3) := by simp [World.cell?, AH2]
        go_wp2_with fail
        refine (copy_any _ X.item w2 (hi2.below C2) HFX.out.1 HFX.out.2.1 HFX.out.2.2).mono ?_
        rintro e w3 ⟨v3, rfl, ho3, hb3⟩
        obtain ⟨b1, f1, b2, f2, b3, f3, rfl, hr3⟩ := id ho3
        have AH3 := (hb3.block _ hx2).trans AH2
        have C3 : Below wr.heap.size wr w3 := C2.trans (hb3.mono C2.size)
        have hx3 : wr.heap.size < w3.heap.size := (Array.getElem?_eq_some_iff.1 AH3).1
        clear hr3 e1 e2 e3 e4 e5 AH2 
        have e1 : w3.cell? ⟨wr.heap.size, 1, none⟩ = some (.int .i64 X.item.k) := by simp [World.cell?, AH3]
        have z1 : w3.frozen? ⟨wr.heap.size, 1, none⟩ = false := by simp [World.frozen?, AH3]
        have e2 : w3.cell? ⟨wr.heap.size, 2, none⟩ = some (.string X.item.t) := by simp [World.cell?, AH3]
        have z2 : w3.frozen? ⟨wr.heap.size, 2, none⟩ = false := by simp [World.frozen?, AH3]
        have e3 : w3.cell? ⟨wr.heap.size, 3, none⟩ = some (.slice a1 X.item.l.length c1) := by simp [World.cell?, AH3]
        have z3 : w3.frozen? ⟨wr.heap.size, 3, none⟩ = false := by simp [World.frozen?, AH3]
        have e4 : w3.cell? ⟨wr.heap.size, 4, none⟩ = some (.slice a2 X.item.p.length c2) := by simp [World.cell?, AH3]
        have z4 : w3.frozen? ⟨wr.heap.size, 4, none⟩ = false := by simp [World.frozen?, AH3]
        have e5 : w3.cell? ⟨wr.heap.size, 5, none⟩ = some (.slice a3 X.item.s.length c3) := by simp [World.cell?, AH3]
        have z5 : w3.frozen? ⟨wr.heap.size, 5, none⟩ = false := by simp [World.frozen?, AH3]
        have AH4 : (((((w3.setCell ⟨wr.heap.size, 1, none⟩ (.int .i64 X.item.k)).setCell ⟨wr.heap.size, 2, none⟩ (.string X.item.t)).setCell ⟨wr.heap.size, 3, none⟩ (.slice b1 X.item.l.length f1)).setCell ⟨wr.heap.size, 4, none⟩ (.slice b2 X.item.p.length f2)).setCell ⟨wr.heap.size, 5, none⟩ (.slice b3 X.item.s.length f3)).heap[wr.heap.size]? = some (.cells #[.string X.key, .int .i64 X.item.k, .string X.item.t, .slice b1 X.item.l.length f1, .slice b2 X.item.p.length f2, .slice b3 X.item.s.length f3, .int .i64 X.til] 42 (0, 0)) := by
          rw [setCell_heapY (setCell_heapY (setCell_heapY (setCell_heapY (setCell_heapY AH3 1 _) 2 _) 3 _) 4 _) 5 _]; rfl
        have K4 : Kept (one wr.heap.size) w3 (((((w3.setCell ⟨wr.heap.size, 1, none⟩ (.int .i64 X.item.k)).setCell ⟨wr.heap.size, 2, none⟩ (.string X.item.t)).setCell ⟨wr.heap.size, 3, none⟩ (.slice b1 X.item.l.length f1)).setCell ⟨wr.heap.size, 4, none⟩ (.slice b2 X.item.p.length f2)).setCell ⟨wr.heap.size, 5, none⟩ (.slice b3 X.item.s.length f3)) := (((((Kept.refl (one wr.heap.size) w3).set1 1 _).set1 2 _).set1 3 _).set1 4 _).set1 5 _
        have C4 : Below wr.heap.size wr (((((w3.setCell ⟨wr.heap.size, 1, none⟩ (.int .i64 X.item.k)).setCell ⟨wr.heap.size, 2, none⟩ (.string X.item.t)).setCell ⟨wr.heap.size, 3, none⟩ (.slice b1 X.item.l.length f1)).setCell ⟨wr.heap.size, 4, none⟩ (.slice b2 X.item.p.length f2)).setCell ⟨wr.heap.size, 5, none⟩ (.slice b3 X.item.s.length f3)) := ((((C3.setCell (p := ⟨wr.heap.size, 1, none⟩) (Nat.le_refl _) _).setCell (p := ⟨wr.heap.size, 2, none⟩) (Nat.le_refl _) _).setCell (p := ⟨wr.heap.size, 3, none⟩) (Nat.le_refl _) _).setCell (p := ⟨wr.heap.size, 4, none⟩) (Nat.le_refl _) _).setCell (p := ⟨wr.heap.size, 5, none⟩) (Nat.le_refl _) _
        obtain ⟨W4, hW4⟩ : ∃ W4, (((((w3.setCell ⟨wr.heap.size, 1, none⟩ (.int .i64 X.item.k)).setCell ⟨wr.heap.size, 2, none⟩ (.string X.item.t)).setCell ⟨wr.heap.size, 3, none⟩ (.slice b1 X.item.l.length f1)).setCell ⟨wr.heap.size, 4, none⟩ (.slice b2 X.item.p.length f2)).setCell ⟨wr.heap.size, 5, none⟩ (.slice b3 X.item.s.length f3)) = W4 := ⟨_, rfl⟩
        rw [hW4] at AH4 K4 C4
        have hx4 : wr.heap.size < W4.heap.size := (Array.getElem?_eq_some_iff.1 AH4).1
        have g0 : W4.cell? ⟨wr.heap.size, 0, none⟩ = some (.string X.key) := by simp [World.cell?, AH4]
        have g1 : W4.cell? ⟨wr.heap.size, 1, none⟩ = some (.int .i64 X.item.k) := by simp [World.cell?, AH4]
        have g2 : W4.cell? ⟨wr.heap.size, 2, none⟩ = some (.string X.item.t) := by simp [World.cell?, AH4]
        have g3 : W4.cell? ⟨wr.heap.size, 3, none⟩ = some (.slice b1 X.item.l.length f1) := by simp [World.cell?, AH4]
        have g4 : W4.cell? ⟨wr.heap.size, 4, none⟩ = some (.slice b2 X.item.p.length f2) := by simp [World.cell?, AH4]
        have g5 : W4.cell? ⟨wr.heap.size, 5, none⟩ = some (.slice b3 X.item.s.length f3) := by simp [World.cell?, AH4]
        have g6 : W4.cell? ⟨wr.heap.size, 6, none⟩ = some (.int .i64 X.til) := by simp [World.cell?, AH4]
        have hox : OwnItem w.heap.size W4 (itemV X.item ((b1, f1), (b2, f2), (b3, f3))) X.item := (ho3.kept K4 (Nat.le_trans hsz C2.size) (fun j cs T hj _ _ ej => by simp only [one] at ej; omega))
        have hown4 : OwnSp w.heap.size W4 _ l := hown.below C4
        clear ho3 hown
        go_wp2_with (at_builtin; refine wpList_append_own _ rfl _ _ 23 rfl w.heap.size 42 iE (.agg #[.string ⟨#[]⟩, .int .i64 0, .string ⟨#[]⟩, .slice none 0 0, .slice none 0 0, .slice none 0 0, .int .i64 0]) 7 120 Tryz.underlying23 hi hz0 hzE hz2 rfl (by decide) _ _ _ rfl (hown4.row.alloc _) ⟨W4.heap.size, 0, none⟩ 1 1 [.string X.key, .int .i64 X.item.k, .string X.item.t, .slice b1 X.item.l.length f1, .slice b2 X.item.p.length f2, .slice b3 X.item.s.length f3, .int .i64 X.til] rfl rfl ?c1 ?c2 ?c3 ?c4 ?c5 ?_)
        case c1 =>
          intro j u hj
          match j, hj with
          | 0, hj => simp at hj; subst hj; simp [Addr.add]
          | 1, hj => simp at hj; subst hj; simp [Addr.add]
          | 2, hj => simp at hj; subst hj; simp [Addr.add]
          | 3, hj => simp at hj; subst hj; simp [Addr.add]
          | 4, hj => simp at hj; subst hj; simp [Addr.add]
          | 5, hj => simp at hj; subst hj; simp [Addr.add]
          | 6, hj => simp at hj; subst hj; simp [Addr.add]
          | _ + 7, hj => simp at hj
        case c2 => intro u hu; simp at hu; rcases hu with rfl | rfl | rfl | rfl | rfl | rfl | rfl <;> rfl
        case c3 => unfold maxLen; omega
        case c4 => omega
        case c5 => simp; omega
        intro v5 w5 hown5 hgrow _
        have hrA := hown4.row.alloc (.cells #[.string X.key, .int .i64 X.item.k, .string X.item.t, .slice b1 X.item.l.length f1, .slice b2 X.item.p.length f2, .slice b3 X.item.s.length f3, .int .i64 X.til] 42)
        have CX : Below w.heap.size w w5 := by
          have h1 := (hbr.trans (C4.mono hsz)).alloc (Nat.le_trans hsz C4.size) (.cells #[.string X.key, .int .i64 X.item.k, .string X.item.t, .slice b1 X.item.l.length f1, .slice b2 X.item.p.length f2, .slice b3 X.item.s.length f3, .int .i64 X.til] 42)
          exact h1.grown hgrow h1.size (fun j hj => (hrA.lt j hj).1)
        have hown6 : OwnSp w.heap.size w5 v5 (l ++ [(X, ((b1, f1), (b2, f2), (b3, f3)))]) := by
          refine ⟨by simpa [rowE_snoc, cellsE] using hown5, fun y hy => ?_⟩
          have hA : OwnItem w.heap.size (W4.alloc (.cells #[.string X.key, .int .i64 X.item.k, .string X.item.t, .slice b1 X.item.l.length f1, .slice b2 X.item.p.length f2, .slice b3 X.item.s.length f3, .int .i64 X.til] 42)) (itemV y.1.item y.2) y.1.item := by
            have h4 : OwnItem w.heap.size W4 (itemV y.1.item y.2) y.1.item := by
              rcases List.mem_append.1 hy with hy | hy
              · exact hown4.its y hy
              · rw [List.mem_singleton.1 hy]; exact hox
            exact h4.below ((Below.refl _ _).alloc (Nat.le_refl _) _)
          refine hA.kept ((Kept.refl _ _).grown hgrow (S := fun j => some j = u5.ownBlock) (fun j hj => .inl hj.symm)) (Nat.le_refl _) (fun j cs T _ h1 h2 h3 => ?_)
          rcases hrA.2 with ⟨hv, _⟩ | ⟨g', cap', cur', hv, _, hg', _⟩
          · rw [hv] at h3; simp [Value.ownBlock] at h3
          · rw [hv] at h3
            simp [Value.ownBlock] at h3
            subst h3
            rw [hg'] at h1
            simp at h1
            exact h2 h1.2.symm
        clear hown5 hgrow hown4 hox hrA
        go_wp2_with fail
        go_roundw
        case rel => exact ⟨k + 1, _, by omega, by go_num, by simp; omega, HL2.out _, hown6, CX⟩
        case measure => simp [intOf]; omega
    · have hge : ¬ ((k : Nat) : Int) < ((s.length : Nat) : Int) := by omega
      obtain rfl : k = s.length := by omega
      rw [List.take_length] at HL
      go_wp2_with fail
      go_ret
      exact ⟨_, rfl, l, HL.out, hown, hbr⟩
end Go.Proofs.YtmaancidkpfopaaGreatDoor

/- WALKS of whether texts, and items, are the same. -/
namespace Go.Proofs.YtmaancidkpfopaaGreatDoor
open Go.RowKit

theorem below_drewN {B : Nat} {a w : World} (h : Below B a w) (n : Nat) : Below B a (w.drewN n) := ⟨h.os, h.tape, h.output, h.size, h.block⟩
theorem bytes_inj {a b : ByteArray} (h : a.toList = b.toList) : a = b := by
  rw [ByteArray.toList_eq, ByteArray.toList_eq] at h
  cases a; cases b
  congr 1
  exact Array.toList_inj.1 h

set_option maxRecDepth 100000 in
set_option maxHeartbeats 1000000 in
theorem sameT_any (a b : Option Addr) (c d : Nat) (xs ys : List ByteArray) (w : World) (hx : TextsAt w a xs) (hy : TextsAt w b ys) (hmax : ys.length ≤ 281474976710656) :
    Calls Tryz.prog 27 #[.slice a xs.length c, .slice b ys.length d] w fun e w' => e = .returned (.bool (decide (xs = ys))) ∧ Below w.heap.size w w' := by
  by_cases hl : xs.length = ys.length
  · have HX := hide hx
    have HY := hide hy
    clear hx hy
    rw [hl]
    go_enter Tryz.func27, Tryz.ntmps27
    have h0 : ((ys.length : Int) == ys.length) = true := by simp
    go_wp2_with fail
    go_loopw [5] (fun i wr => ∃ k : Nat, k ≤ ys.length ∧ i = .int .i64 k ∧ Below w.heap.size w wr ∧ Hid (xs.take k = ys.take k)) (fun i _ => ys.length - (intOf i).toNat)
    case atStart => exact ⟨0, Nat.zero_le _, rfl, Below.refl _ _, by simp [Hid]⟩
    case round =>
      obtain ⟨k, hk, rfl, hb, HE⟩ := hrel
      by_cases hlt : k < ys.length
      · have hltx : k < xs.length := by omega
        obtain ⟨g1, o1, rfl, hc1⟩ : ∃ g o, a = some ⟨g, o, none⟩ ∧ ∀ i (h : i < xs.length), w.cell? ⟨g, o + i, none⟩ = some (.string xs[i]) := by
          rcases HX.out with h | h
          · subst h; simp at hltx
          · exact h
        obtain ⟨g2, o2, rfl, hc2⟩ : ∃ g o, b = some ⟨g, o, none⟩ ∧ ∀ i (h : i < ys.length), w.cell? ⟨g, o + i, none⟩ = some (.string ys[i]) := by
          rcases HY.out with h | h
          · subst h; simp at hlt
          · exact h
        have HB : Hid (∀ g o v, w.cell? ⟨g, o, none⟩ = some v → wr.cell? ⟨g, o, none⟩ = some v) := fun g o _ hv => (hb.cell (p := ⟨g, o, none⟩) (World.block_lt_of_cell? _ _ hv)).trans hv
        have e1 : wr.cell? ⟨g1, o1 + k, none⟩ = some (.string xs[k]) := HB.out _ _ _ (hc1 k hltx)
        have e2 : wr.cell? ⟨g2, o2 + k, none⟩ = some (.string ys[k]) := HB.out _ _ _ (hc2 k hlt)
        have HT : Hid (xs[k] = ys[k] → xs.take (k + 1) = ys.take (k + 1)) := fun heq => by
          rw [List.take_succ_eq_append_getElem hltx, List.take_succ_eq_append_getElem hlt, HE.out, heq]
        have HF : Hid (xs[k] ≠ ys[k] → decide (xs = ys) = false) := fun hne => decide_eq_false (fun e => hne (by subst e; rfl))
        clear hc1 hc2 HX HY HB
        generalize xs[k] = X at *
        generalize ys[k] = Y at *
        by_cases hXY : X = Y
        · subst hXY
          have HT' := hide (HT.out rfl)
          clear HT HF
          go_wp2_with fail
          go_quiet (fail)
          have hb2 : Below w.heap.size w (wr.drewN nq) := below_drewN hb nq
          go_wp2_with fail
          go_roundw
          case rel => exact ⟨k + 1, by omega, by go_num, hb2, HT'⟩
          case measure => simp [intOf]; omega
        · have HF' := hide (HF.out hXY)
          have hne : (X.toList == Y.toList) = false := by rw [beq_eq_false_iff_ne]; exact fun e => hXY (bytes_inj e)
          clear HT HF
          go_wp2_with fail
          go_quiet (fail)
          have hb2 : Below w.heap.size w (wr.drewN nq) := below_drewN hb nq
          go_wp2_with fail
          go_ret
          rw [HF'.out]
          exact ⟨rfl, hb2⟩
      · have hd : Hid (decide (xs = ys) = true) := by
          have h1 := HE.out
          rw [List.take_of_length_le (by omega), List.take_of_length_le (by omega)] at h1
          exact decide_eq_true h1
        go_wp2_with fail
        go_ret
        rw [hd.out]
        exact ⟨rfl, hb⟩
  · have hd : decide (xs = ys) = false := decide_eq_false (fun e => hl (by rw [e]))
    have h0 : ((xs.length : Int) == ys.length) = false := by rw [beq_eq_false_iff_ne]; omega
    rw [hd]
    clear hx hy hd
    go_enter Tryz.func27, Tryz.ntmps27
    go_wp2_with fail
    go_ret
    exact ⟨rfl, Below.refl _ _⟩
end Go.Proofs.YtmaancidkpfopaaGreatDoor

/- WALKS of spaces: Check; a space at a time, with a key. -/
namespace Go.Proofs.YtmaancidkpfopaaGreatDoor
open Go.RowKit

theorem bytesLess_less (a b : ByteArray) : Op.bytesLess a.toList b.toList = decide (lessT a b) := by
  rw [bytesLess_eq, ByteArray.toList_eq, ByteArray.toList_eq, Bool.eq_iff_iff, decide_eq_true_iff, decide_eq_true_iff]; rfl
set_option maxRecDepth 100000 in
set_option maxHeartbeats 8000000 in
theorem spCheck_any (a : Option Addr) (c : Nat) (s : List Ent) (w : World) (hs : SpaceAt w a s) (hn : s.length ≤ 281474976710656) :
    Calls Tryz.prog 10 #[.slice a s.length c] w fun e w' => e = .returned (.int .i64 (chkSp s)) ∧ Below w.heap.size w w' := by
  have HS := hide hs
  clear hs
  by_cases h16 : 16 < s.length
  · have h16' : (16 : Int) < ((s.length : Nat) : Int) := by omega
    have hE : chkSp s = 2 := by rw [chkSp, if_pos h16]
    rw [hE]
    clear hE HS
    go_enter Tryz.func10, Tryz.ntmps10
    go_wp2_with fail
    go_ret
    exact ⟨rfl, Below.refl _ _⟩
  · have h16' : ¬ (16 : Int) < ((s.length : Nat) : Int) := by omega
    obtain ⟨R, hR⟩ : ∃ R, chkSp s = R := ⟨_, rfl⟩
    have HR : Hid (chkFrom none s = R) := by rw [Hid, ← hR, chkSp, if_neg h16]
    rw [hR]
    clear hR
    go_enter Tryz.func10, Tryz.ntmps10
    go_wp2_with fail
    go_loopw [11] (fun iv wr => ∃ q : Nat, q ≤ s.length ∧ iv = .int .i64 q ∧ Hid (chkFrom (aheadE s q) (s.drop q) = R) ∧ Below w.heap.size w wr) (fun iv _ => s.length - (intOf iv).toNat)
    case atStart => exact ⟨0, Nat.zero_le _, rfl, HR.out, Below.refl _ _⟩
    case round =>
      obtain ⟨q, hq, rfl, HQ, hbr⟩ := hrel
      have hsz := hbr.size
      by_cases hlt : q < s.length
      · have hlt' : ((q : Nat) : Int) < ((s.length : Nat) : Int) := by omega
        obtain ⟨g, o, rfl, hcs⟩ : ∃ g o, a = some ⟨g, o, none⟩ ∧ ∀ i (h : i < s.length), EntAt w g (o + i * 7) s[i] := by
          rcases HS.out with h | h
          · rw [h] at hlt; simp at hlt
          · exact h
        obtain ⟨a1, c1, a2, c2, a3, c3, ⟨d0, d1, d2, d3, d4, d5, d6⟩, hi⟩ := (hcs q hlt).below hbr
        have HST : Hid (R = if chkE s[q] ≠ 0 then chkE s[q] else if behindE (aheadE s q) s[q] = true then chkFrom (aheadE s (q + 1)) (s.drop (q + 1)) else 4) := by rw [Hid, ← HQ.out, chkFrom_at s q hlt]
        have HAH : Hid (∀ m, m + 1 = q → ∃ hm : m < s.length, wr.cell? ⟨g, o + m * 7, none⟩ = some (.string s[m].key) ∧ aheadE s q = some s[m].key) := fun m hm => ⟨by omega, by
          obtain ⟨_, _, _, _, _, _, ⟨k0, -⟩, -⟩ := (hcs m (by omega)).below hbr
          exact k0, by
          subst hm
          rw [aheadE, if_neg (by omega)]
          simp [show m < s.length by omega]⟩
        have HCK : Hid (∀ W, Below wr.heap.size wr W → Calls Tryz.prog 18 #[.agg #[.string s[q].key, .int .i64 s[q].item.k, .string s[q].item.t, .slice a1 s[q].item.l.length c1, .slice a2 s[q].item.p.length c2, .slice a3 s[q].item.s.length c3, .int .i64 s[q].til]] W fun e w' => e = .returned (.int .i64 (chkE s[q])) ∧ Below W.heap.size W w') := fun W hW => checkEntry_any _ s[q] W ⟨a1, c1, a2, c2, a3, c3, rfl, hi.below hW⟩
        clear hcs HS HR HQ hi
        generalize s[q] = X at *
        have CA := hbr.alloc hsz (.cells #[.string X.key, .int .i64 X.item.k, .string X.item.t, .slice a1 X.item.l.length c1, .slice a2 X.item.p.length c2, .slice a3 X.item.s.length c3, .int .i64 X.til] 42)
        have C0 : Below wr.heap.size wr (wr.alloc (.cells #[.string X.key, .int .i64 X.item.k, .string X.item.t, .slice a1 X.item.l.length c1, .slice a2 X.item.p.length c2, .slice a3 X.item.s.length c3, .int .i64 X.til] 42)) := (Below.refl _ wr).alloc (Nat.le_refl _) _
        by_cases hck : chkE X = 0
        · rw [hck] at HCK
          rw [if_neg (by simp [hck])] at HST
          clear hck
          go_wp2_with fail
          refine (HCK.out _ C0).mono ?_
          rintro e w5 ⟨rfl, hb5⟩
          have C5 := CA.trans (hb5.mono CA.size)
          have D5 := C0.trans (hb5.mono C0.size)
          have x0 : w5.cell? ⟨wr.heap.size, 0, none⟩ = some (.string X.key) := (hb5.cell (p := ⟨wr.heap.size, 0, none⟩) (by simp)).trans (by simp [go_sem])
          clear hb5 CA C0 HCK
          by_cases hq0 : q = 0
          · subst hq0
            have HW2 : Hid (chkFrom (aheadE s (0 + 1)) (s.drop (0 + 1)) = R) := by
              have := HST.out
              rw [show aheadE s 0 = none from rfl, if_pos (show behindE none X = true from rfl)] at this
              exact this.symm
            clear HST HAH
            go_wp2_with fail
            go_quiet (fail)
            go_wp2_with fail
            go_roundw
            case rel => exact ⟨0 + 1, by omega, by go_num, HW2.out, below_drewN C5 _⟩
            case measure => simp [intOf]; omega
          · obtain ⟨m, rfl⟩ : ∃ m, q = m + 1 := ⟨q - 1, by omega⟩
            obtain ⟨hm, e0, e1⟩ := HAH.out m rfl
            have f0 := (D5.cell (p := ⟨g, o + m * 7, none⟩) (World.block_lt_of_cell? _ _ e0)).trans e0
            have hm1 : ((m : Nat) : Int) < ((s.length : Nat) : Int) := by omega
            have hm0 : (0 : Int) < ((m : Nat) : Int) + 1 := by omega
            rw [e1] at HST
            clear HAH e0 e1
            generalize s[m].key = Z at *
            have hbl := bytesLess_less Z X.key
            by_cases hl : lessT Z X.key
            · have HW2 : Hid (chkFrom (aheadE s (m + 1 + 1)) (s.drop (m + 1 + 1)) = R) := by
                have := HST.out
                rw [if_pos (by simp [behindE, hl])] at this
                exact this.symm
              rw [decide_eq_true hl] at hbl
              clear HST hl
              generalize X.key = XK at *
              go_wp2_with fail
              go_quiet (fail)
              go_wp2_with fail
              go_roundw
              case rel => exact ⟨m + 1 + 1, by omega, by go_num, HW2.out, below_drewN C5 _⟩
              case measure => simp [intOf]; omega
            · have HW2 : Hid (R = 4) := by
                have := HST.out
                rw [if_neg (by simp [behindE, hl])] at this
                exact this
              rw [decide_eq_false hl] at hbl
              clear HST hl
              generalize X.key = XK at *
              go_wp2_with fail
              go_quiet (fail)
              go_wp2_with fail
              go_ret
              exact ⟨by simp [HW2.out], below_drewN C5 _⟩
        · have hck' : (chkE X == 0) = false := by rw [beq_eq_false_iff_ne]; exact hck
          have HW2 : Hid (R = chkE X) := by rw [Hid, HST.out, if_pos hck]
          clear HST hck HAH
          generalize chkE X = E at *
          go_wp2_with fail
          refine (HCK.out _ C0).mono ?_
          rintro e w5 ⟨rfl, hb5⟩
          have C5 := CA.trans (hb5.mono CA.size)
          clear hb5 CA C0 HCK
          go_wp2_with fail
          go_ret
          exact ⟨by simp [HW2.out], C5⟩
      · have hge : ¬ ((q : Nat) : Int) < ((s.length : Nat) : Int) := by omega
        obtain rfl : q = s.length := by omega
        have HW2 : Hid (R = 0) := by
          have := HQ.out
          rw [List.drop_length] at this
          rw [Hid, ← this]
          rfl
        clear HQ HS HR
        go_wp2_with fail
        go_ret
        exact ⟨by simp [HW2.out], hbr⟩
set_option maxRecDepth 100000 in
theorem checkAt_any (a : Option Addr) (c : Nat) (s : List Ent) (now : Int) (w : World) (hs : SpaceAt w a s) (hn : s.length ≤ 281474976710656) :
    Calls Tryz.prog 154 #[.slice a s.length c, .int .i64 now] w fun e w' => e = .returned (.int .i64 (chkAt s now)) ∧ Below w.heap.size w w' := by
  have HC := hide (spCheck_any a c s w hs hn)
  have HT : Hid (∀ W, Calls Tryz.prog 11 #[.int .i64 now] W fun e w' => e = .returned (.bool (timeT now)) ∧ w' = W) := fun W => timeY_any _ W
  unfold chkAt
  clear hs
  generalize timeT now = TT at *
  by_cases h0 : chkSp s = 0
  · rw [if_neg (by simp [h0])]
    rw [h0] at HC
    clear h0
    cases TT with
    | true =>
      rw [if_pos rfl]
      go_enter Tryz.func154, Tryz.ntmps154
      go_wp2_with fail
      refine HC.out.mono ?_
      rintro e w1 ⟨rfl, hb1⟩
      go_wp2_with fail
      refine (HT.out _).mono ?_
      rintro e w2 ⟨rfl, rfl⟩
      go_wp2_with fail
      go_ret
      exact ⟨rfl, hb1⟩
    | false =>
      rw [if_neg (by decide)]
      go_enter Tryz.func154, Tryz.ntmps154
      go_wp2_with fail
      refine HC.out.mono ?_
      rintro e w1 ⟨rfl, hb1⟩
      go_wp2_with fail
      refine (HT.out _).mono ?_
      rintro e w2 ⟨rfl, rfl⟩
      go_wp2_with fail
      go_ret
      exact ⟨rfl, hb1⟩
  · rw [if_pos h0]
    have h0' : (chkSp s == 0) = false := by rw [beq_eq_false_iff_ne]; exact h0
    clear h0
    generalize chkSp s = E at *
    go_enter Tryz.func154, Tryz.ntmps154
    go_wp2_with fail
    refine HC.out.mono ?_
    rintro e w1 ⟨rfl, hb1⟩
    go_wp2_with fail
    go_ret
    exact ⟨rfl, hb1⟩
set_option maxRecDepth 100000 in
theorem checkKey_any (a : Option Addr) (c : Nat) (s : List Ent) (now : Int) (key : ByteArray) (w : World) (hs : SpaceAt w a s) (hn : s.length ≤ 281474976710656) :
    Calls Tryz.prog 221 #[.slice a s.length c, .int .i64 now, .string key] w fun e w' => e = .returned (.int .i64 (chkKey s now key)) ∧ Below w.heap.size w w' := by
  have HC := hide (checkAt_any a c s now w hs hn)
  have HT : Hid (∀ W, Calls Tryz.prog 28 #[.string key] W fun e w' => e = .returned (.bool (longT key)) ∧ w' = W) := fun W => longY_below _ W
  unfold chkKey
  clear hs
  generalize longT key = TT at *
  by_cases h0 : chkAt s now = 0
  · rw [if_neg (by simp [h0])]
    rw [h0] at HC
    clear h0
    cases TT with
    | true =>
      rw [if_pos rfl]
      go_enter Tryz.func221, Tryz.ntmps221
      go_wp2_with fail
      refine HC.out.mono ?_
      rintro e w1 ⟨rfl, hb1⟩
      go_wp2_with fail
      refine (HT.out _).mono ?_
      rintro e w2 ⟨rfl, rfl⟩
      go_wp2_with fail
      go_ret
      exact ⟨rfl, hb1⟩
    | false =>
      rw [if_neg (by decide)]
      go_enter Tryz.func221, Tryz.ntmps221
      go_wp2_with fail
      refine HC.out.mono ?_
      rintro e w1 ⟨rfl, hb1⟩
      go_wp2_with fail
      refine (HT.out _).mono ?_
      rintro e w2 ⟨rfl, rfl⟩
      go_wp2_with fail
      go_ret
      exact ⟨rfl, hb1⟩
  · rw [if_pos h0]
    have h0' : (chkAt s now == 0) = false := by rw [beq_eq_false_iff_ne]; exact h0
    clear h0
    generalize chkAt s now = E at *
    go_enter Tryz.func221, Tryz.ntmps221
    go_wp2_with fail
    refine HC.out.mono ?_
    rintro e w1 ⟨rfl, hb1⟩
    go_wp2_with fail
    go_ret
    exact ⟨rfl, hb1⟩
end Go.Proofs.YtmaancidkpfopaaGreatDoor

/- WALKS of spaces: which ones go; swept; Sweep. -/
namespace Go.Proofs.YtmaancidkpfopaaGreatDoor
open Go.RowKit

theorem OwnSp.low {B B2 : Nat} {w : World} {V : Value} {l : List (Ent × Sls)} (h : OwnSp B w V l) (hb : B2 ≤ B) : OwnSp B2 w V l :=
  ⟨row_lowY h.row hb, fun y hy => (h.its y hy).low hb⟩
set_option maxRecDepth 100000 in
theorem goesGone_any (b : Nat) (now : Int) (v : Value) (x : Ent) (W : World) (hc : W.cell? ⟨b, 0, none⟩ = some (.int .i64 now)) (h : EntIs W v x) :
    Calls Tryz.prog 300 #[v, .pointer (some ⟨b, 0, none⟩)] W fun e w' => e = .returned (.bool (goneE x now)) ∧ Below W.heap.size W w' := by
  obtain ⟨a1, c1, a2, c2, a3, c3, rfl, hi⟩ := h
  obtain ⟨W1, hW1⟩ : ∃ W1, W.alloc (.cells #[.string x.key, .int .i64 x.item.k, .string x.item.t, .slice a1 x.item.l.length c1, .slice a2 x.item.p.length c2, .slice a3 x.item.s.length c3, .int .i64 x.til] 42) = W1 := ⟨_, rfl⟩
  have HB : Below W.heap.size W W1 := hW1 ▸ (Below.refl _ W).alloc (Nat.le_refl _) _
  have hc1 : W1.cell? ⟨b, 0, none⟩ = some (.int .i64 now) := (HB.cell (p := ⟨b, 0, none⟩) (World.block_lt_of_cell? _ _ hc)).trans hc
  have AH : W1.heap[W.heap.size]? = some (.cells #[.string x.key, .int .i64 x.item.k, .string x.item.t, .slice a1 x.item.l.length c1, .slice a2 x.item.p.length c2, .slice a3 x.item.s.length c3, .int .i64 x.til] 42 (0, 0)) := hW1 ▸ allocY_new W _
  have i0 : W1.cell? ⟨W.heap.size, 0, none⟩ = some (.string x.key) := by simp [World.cell?, AH]
  have i1 : W1.cell? ⟨W.heap.size, 1, none⟩ = some (.int .i64 x.item.k) := by simp [World.cell?, AH]
  have i2 : W1.cell? ⟨W.heap.size, 2, none⟩ = some (.string x.item.t) := by simp [World.cell?, AH]
  have i3 : W1.cell? ⟨W.heap.size, 3, none⟩ = some (.slice a1 x.item.l.length c1) := by simp [World.cell?, AH]
  have i4 : W1.cell? ⟨W.heap.size, 4, none⟩ = some (.slice a2 x.item.p.length c2) := by simp [World.cell?, AH]
  have i5 : W1.cell? ⟨W.heap.size, 5, none⟩ = some (.slice a3 x.item.s.length c3) := by simp [World.cell?, AH]
  have i6 : W1.cell? ⟨W.heap.size, 6, none⟩ = some (.int .i64 x.til) := by simp [World.cell?, AH]
  have HG := hide (isGone_any _ x now W1 ⟨a1, c1, a2, c2, a3, c3, rfl, hi.below HB⟩)
  clear hc hi AH
  go_enter Tryz.func300, Tryz.ntmps300
  go_wp2_with fail
  refine HG.out.mono ?_
  rintro e w1 ⟨rfl, hb1⟩
  go_wp2_with fail
  go_ret
  exact ⟨rfl, HB.trans (hb1.mono HB.size)⟩
set_option maxRecDepth 100000 in
theorem swept_any (a : Option Addr) (c : Nat) (s : List Ent) (now : Int) (w : World) (hs : SpaceAt w a s) (hn : s.length ≤ 1000000) (hf : ∀ x ∈ s, Fits x.item) :
    Calls Tryz.prog 261 #[.slice a s.length c, .int .i64 now] w fun e w' => ∃ V l, e = .returned V ∧ l.map Prod.fst = s.filter (fun x => !goneE x now) ∧ OwnSp w.heap.size w' V l ∧ Below w.heap.size w w' := by
  obtain ⟨W1, hW1⟩ : ∃ W1, w.alloc (.cells #[.int .i64 now] 3) = W1 := ⟨_, rfl⟩
  have HB : Below w.heap.size w W1 := hW1 ▸ (Below.refl _ w).alloc (Nat.le_refl _) _
  have AH : W1.heap[w.heap.size]? = some (.cells #[.int .i64 now] 3 (0, 0)) := hW1 ▸ allocY_new w _
  have hz : w.heap.size < W1.heap.size := (Array.getElem?_eq_some_iff.1 AH).1
  have hc : W1.cell? ⟨w.heap.size, 0, none⟩ = some (.int .i64 now) := by simp [World.cell?, AH]
  have HW := hide (without_swept w.heap.size (fun x => goneE x now) a c s W1 (hs.below HB) hn hf (fun x _ v W hW hv => goesGone_any w.heap.size now v x W ((hW.cell (p := ⟨w.heap.size, 0, none⟩) hz).trans hc) hv))
  clear hs hf
  go_enter Tryz.func261, Tryz.ntmps261
  go_wp2_with fail
  refine HW.out.mono ?_
  rintro e w1 ⟨V, l, rfl, hl, ho, hb⟩
  obtain ⟨ao, cp, rfl⟩ := slice_ownY ho.row
  have HH := hide (And.intro hl (And.intro (ho.low HB.size) (HB.trans (hb.mono HB.size))))
  clear hl ho hb HW hW1 hc AH
  go_wp2_with fail
  go_ret
  exact ⟨_, l, rfl, HH.out.1, HH.out.2.1, HH.out.2.2⟩
end Go.Proofs.YtmaancidkpfopaaGreatDoor

/- WALKS of spaces: where an entry stands; find. -/
namespace Go.Proofs.YtmaancidkpfopaaGreatDoor
open Go.RowKit

set_option maxRecDepth 100000 in
set_option maxHeartbeats 4000000 in
theorem idxY_any (b1 b2 : Nat) (g : Ent → Bool) (a : Option Addr) (c : Nat) (s : List Ent) (w : World) (hs : SpaceAt w a s) (hn : s.length ≤ 1000000)
    (hg : ∀ x ∈ s, ∀ v W, Below w.heap.size w W → EntIs W v x → Calls Tryz.prog 293 #[v, .pointer (some ⟨b1, 0, none⟩), .pointer (some ⟨b2, 0, none⟩)] W fun e w' => e = .returned (.bool (g x)) ∧ Below W.heap.size W w') :
    Calls Tryz.prog 292 #[.slice a s.length c, .func (.func 293) #[] #[.pointer (some ⟨b1, 0, none⟩), .pointer (some ⟨b2, 0, none⟩)]] w fun e w' =>
      ((∃ (k : Nat) (h : k < s.length), e = .returned (.int .i64 k) ∧ g s[k] = true) ∨ (e = .returned (.int .i64 (-1)) ∧ ∀ x ∈ s, g x = false)) ∧ Below w.heap.size w w' := by
  have HS := hide hs
  have HG := hide hg
  clear hs hg
  go_enter Tryz.func292, Tryz.ntmps292
  go_wp2_with fail
  go_loopw [8] (fun iv wr => ∃ k : Nat, k ≤ s.length ∧ iv = .int .i64 k ∧ Hid (∀ x ∈ s.take k, g x = false) ∧ Below w.heap.size w wr) (fun iv _ => s.length - (intOf iv).toNat)
  case atStart => exact ⟨0, Nat.zero_le _, rfl, by simp [Hid], Below.refl _ _⟩
  case round =>
    obtain ⟨k, hk, rfl, HL, hbr⟩ := hrel
    have hsz := hbr.size
    by_cases hlt : k < s.length
    · have hlt' : ((k : Nat) : Int) < ((s.length : Nat) : Int) := by omega
      obtain ⟨ga, o, rfl, hcs⟩ : ∃ ga o, a = some ⟨ga, o, none⟩ ∧ ∀ i (h : i < s.length), EntAt w ga (o + i * 7) s[i] := by
        rcases HS.out with h | h
        · rw [h] at hlt; simp at hlt
        · exact h
      obtain ⟨a1, c1, a2, c2, a3, c3, ⟨d0, d1, d2, d3, d4, d5, d6⟩, hi2⟩ := (hcs k hlt).below hbr
      have HGX := hide (HG.out s[k] (List.getElem_mem hlt))
      have HNX : Hid (g s[k] = false → ∀ x ∈ s.take (k + 1), g x = false) := fun h x hx => by
        rw [List.take_succ_eq_append_getElem hlt, List.mem_append] at hx
        rcases hx with hx | hx
        · exact HL.out x hx
        · rw [List.mem_singleton.1 hx]; exact h
      have HYX : Hid (g s[k] = true → ∃ (k' : Nat) (h : k' < s.length), k' = k ∧ g s[k'] = true) := fun h => ⟨k, hlt, rfl, h⟩
      clear hcs HL
      generalize s[k] = X at *
      have HCL := hide (HGX.out _ wr hbr ⟨a1, c1, a2, c2, a3, c3, rfl, hi2⟩)
      clear HGX hi2
      cases hgx : g X with
      | true =>
        have HY := hide (HYX.out hgx)
        rw [hgx] at HCL
        clear hgx HNX HYX
        go_wp2_with fail
        refine HCL.out.mono ?_
        rintro e w2 ⟨rfl, hb2⟩
        have C2 := hbr.trans (hb2.mono hsz)
        clear hb2 HCL
        go_wp2_with fail
        go_ret
        obtain ⟨k', hk', rfl, hg'⟩ := HY.out
        exact ⟨.inl ⟨k', hk', rfl, hg'⟩, C2⟩
      | false =>
        have HN2 := hide (HNX.out hgx)
        rw [hgx] at HCL
        clear hgx HNX HYX
        go_wp2_with fail
        refine HCL.out.mono ?_
        rintro e w2 ⟨rfl, hb2⟩
        have C2 := hbr.trans (hb2.mono hsz)
        clear hb2 HCL
        go_wp2_with fail
        go_roundw
        case rel => exact ⟨k + 1, by omega, by go_num, HN2.out, C2⟩
        case measure => simp [intOf]; omega
    · have hge : ¬ ((k : Nat) : Int) < ((s.length : Nat) : Int) := by omega
      obtain rfl : k = s.length := by omega
      rw [List.take_length] at HL
      go_wp2_with fail
      go_ret
      exact ⟨.inr ⟨rfl, HL.out⟩, hbr⟩
theorem beq_fdY (a b : ByteArray) : (a.toList == b.toList) = decide (a = b) := by
  rw [Bool.eq_iff_iff]
  simp only [beq_iff_eq, decide_eq_true_eq]
  exact ⟨bytes_inj, fun e => by rw [e]⟩
/-- is it the entry of a key that is there? -/
def thereE (key : ByteArray) (now : Int) (x : Ent) : Bool := decide (x.key = key) && !goneE x now
set_option maxRecDepth 100000 in
theorem thereE_any (bk bn : Nat) (key : ByteArray) (now : Int) (v : Value) (x : Ent) (W : World) (hk : W.cell? ⟨bk, 0, none⟩ = some (.string key)) (hc : W.cell? ⟨bn, 0, none⟩ = some (.int .i64 now)) (h : EntIs W v x) :
    Calls Tryz.prog 293 #[v, .pointer (some ⟨bk, 0, none⟩), .pointer (some ⟨bn, 0, none⟩)] W fun e w' => e = .returned (.bool (thereE key now x)) ∧ Below W.heap.size W w' := by
  obtain ⟨a1, c1, a2, c2, a3, c3, rfl, hi⟩ := h
  obtain ⟨W1, hW1⟩ : ∃ W1, W.alloc (.cells #[.string x.key, .int .i64 x.item.k, .string x.item.t, .slice a1 x.item.l.length c1, .slice a2 x.item.p.length c2, .slice a3 x.item.s.length c3, .int .i64 x.til] 42) = W1 := ⟨_, rfl⟩
  have HB : Below W.heap.size W W1 := hW1 ▸ (Below.refl _ W).alloc (Nat.le_refl _) _
  have hc1 : W1.cell? ⟨bn, 0, none⟩ = some (.int .i64 now) := (HB.cell (p := ⟨bn, 0, none⟩) (World.block_lt_of_cell? _ _ hc)).trans hc
  have hk1 : W1.cell? ⟨bk, 0, none⟩ = some (.string key) := (HB.cell (p := ⟨bk, 0, none⟩) (World.block_lt_of_cell? _ _ hk)).trans hk
  have AH : W1.heap[W.heap.size]? = some (.cells #[.string x.key, .int .i64 x.item.k, .string x.item.t, .slice a1 x.item.l.length c1, .slice a2 x.item.p.length c2, .slice a3 x.item.s.length c3, .int .i64 x.til] 42 (0, 0)) := hW1 ▸ allocY_new W _
  have i0 : W1.cell? ⟨W.heap.size, 0, none⟩ = some (.string x.key) := by simp [World.cell?, AH]
  have i1 : W1.cell? ⟨W.heap.size, 1, none⟩ = some (.int .i64 x.item.k) := by simp [World.cell?, AH]
  have i2 : W1.cell? ⟨W.heap.size, 2, none⟩ = some (.string x.item.t) := by simp [World.cell?, AH]
  have i3 : W1.cell? ⟨W.heap.size, 3, none⟩ = some (.slice a1 x.item.l.length c1) := by simp [World.cell?, AH]
  have i4 : W1.cell? ⟨W.heap.size, 4, none⟩ = some (.slice a2 x.item.p.length c2) := by simp [World.cell?, AH]
  have i5 : W1.cell? ⟨W.heap.size, 5, none⟩ = some (.slice a3 x.item.s.length c3) := by simp [World.cell?, AH]
  have i6 : W1.cell? ⟨W.heap.size, 6, none⟩ = some (.int .i64 x.til) := by simp [World.cell?, AH]
  have HG := hide (isGone_any _ x now W1 ⟨a1, c1, a2, c2, a3, c3, rfl, hi.below HB⟩)
  clear hc hk hi AH
  have hbq := beq_fdY x.key key
  unfold thereE
  generalize goneE x now = GN at *
  by_cases he : x.key = key
  · rw [decide_eq_true he] at hbq ⊢
    clear he
    cases GN with
    | true =>
      go_enter Tryz.func293, Tryz.ntmps293
      go_wp2_with fail
      refine HG.out.mono ?_
      rintro e w1 ⟨rfl, hb1⟩
      go_wp2_with fail
      go_ret
      exact ⟨rfl, HB.trans (hb1.mono HB.size)⟩
    | false =>
      go_enter Tryz.func293, Tryz.ntmps293
      go_wp2_with fail
      refine HG.out.mono ?_
      rintro e w1 ⟨rfl, hb1⟩
      go_wp2_with fail
      go_ret
      exact ⟨rfl, HB.trans (hb1.mono HB.size)⟩
  · rw [decide_eq_false he] at hbq ⊢
    clear he HG
    go_enter Tryz.func293, Tryz.ntmps293
    go_wp2_with fail
    go_ret
    exact ⟨rfl, HB⟩
def zeroE : Value := .agg #[.string ⟨#[]⟩, .int .i64 0, .string ⟨#[]⟩, .slice none 0 0, .slice none 0 0, .slice none 0 0, .int .i64 0]
/-- what find answers -/
def FindPost (s : List Ent) (now : Int) (key : ByteArray) (w : World) (e : Ending) (w' : World) : Prop :=
  ((∃ v x, x ∈ s ∧ thereE key now x = true ∧ e = .returned (.tuple #[v, .bool true]) ∧ EntIs w' v x) ∨ (e = .returned (.tuple #[zeroE, .bool false]) ∧ ∀ x ∈ s, thereE key now x = false)) ∧ Below w.heap.size w w'
set_option maxRecDepth 100000 in
set_option maxHeartbeats 1000000 in
theorem find_any (a : Option Addr) (c : Nat) (s : List Ent) (now : Int) (key : ByteArray) (w : World) (hs : SpaceAt w a s) (hn : s.length ≤ 1000000) :
    Calls Tryz.prog 253 #[.slice a s.length c, .int .i64 now, .string key] w (FindPost s now key w) := by
  unfold FindPost
  have HS := hide hs
  obtain ⟨W3, hW3⟩ : ∃ W3, ((w.alloc (.cells #[.int .i64 now] 3)).alloc (.cells #[.string key] 9)).alloc (.cells #[.string ⟨#[]⟩, .int .i64 0, .string ⟨#[]⟩, .slice none 0 0, .slice none 0 0, .slice none 0 0, .int .i64 0] 42) = W3 := ⟨_, rfl⟩
  have b1 : Below (w.alloc (.cells #[.int .i64 now] 3)).heap.size (w.alloc (.cells #[.int .i64 now] 3)) W3 := hW3 ▸ ((Below.refl _ _).alloc (Nat.le_refl _) _).alloc (by simp) _
  have b2 : Below ((w.alloc (.cells #[.int .i64 now] 3)).alloc (.cells #[.string key] 9)).heap.size ((w.alloc (.cells #[.int .i64 now] 3)).alloc (.cells #[.string key] 9)) W3 := hW3 ▸ (Below.refl _ _).alloc (Nat.le_refl _) _
  have HB : Below w.heap.size w W3 := hW3 ▸ (((Below.refl _ w).alloc (Nat.le_refl _) _).alloc (by simp) _).alloc (by simp; omega) _
  have H0 : W3.heap[w.heap.size]? = some (.cells #[.int .i64 now] 3 (0, 0)) := by
    have h1 := allocY_new w (.cells #[.int .i64 now] 3)
    exact (b1.block _ (Array.getElem?_eq_some_iff.1 h1).1).trans h1
  have H1 : W3.heap[w.heap.size + 1]? = some (.cells #[.string key] 9 (0, 0)) := by
    have h1 := allocY_new (w.alloc (.cells #[.int .i64 now] 3)) (.cells #[.string key] 9)
    have h2 := (b2.block _ (Array.getElem?_eq_some_iff.1 h1).1).trans h1
    rwa [World.size_alloc] at h2
  have H2 : W3.heap[w.heap.size + 1 + 1]? = some (.cells #[.string ⟨#[]⟩, .int .i64 0, .string ⟨#[]⟩, .slice none 0 0, .slice none 0 0, .slice none 0 0, .int .i64 0] 42 (0, 0)) := by
    have h1 := allocY_new ((w.alloc (.cells #[.int .i64 now] 3)).alloc (.cells #[.string key] 9)) (.cells #[.string ⟨#[]⟩, .int .i64 0, .string ⟨#[]⟩, .slice none 0 0, .slice none 0 0, .slice none 0 0, .int .i64 0] 42)
    rw [hW3, World.size_alloc, World.size_alloc] at h1
    exact h1
  clear b1 b2
  have z0 : w.heap.size < W3.heap.size := (Array.getElem?_eq_some_iff.1 H0).1
  have z1 : w.heap.size + 1 < W3.heap.size := (Array.getElem?_eq_some_iff.1 H1).1
  have z2 : w.heap.size + 1 + 1 < W3.heap.size := (Array.getElem?_eq_some_iff.1 H2).1
  have q0 : W3.cell? ⟨w.heap.size, 0, none⟩ = some (.int .i64 now) := by simp [World.cell?, H0]
  have q1 : W3.cell? ⟨w.heap.size + 1, 0, none⟩ = some (.string key) := by simp [World.cell?, H1]
  have HI := hide (idxY_any (w.heap.size + 1) w.heap.size (thereE key now) a c s W3 (hs.below HB) hn (fun x _ v W hW hv => thereE_any (w.heap.size + 1) w.heap.size key now v x W ((hW.cell (p := ⟨w.heap.size + 1, 0, none⟩) z1).trans q1) ((hW.cell (p := ⟨w.heap.size, 0, none⟩) z0).trans q0) hv))
  clear H0 H1 q0 q1 hs
  go_enter Tryz.func253, Tryz.ntmps253
  go_wp2_with fail
  refine HI.out.mono ?_
  rintro e w4 ⟨hor, hb4⟩
  have G4 := (hb4.block _ z2).trans H2
  have B4 := HB.trans (hb4.mono HB.size)
  clear HI HB H2 hb4 hW3
  rcases hor with ⟨k, hk, rfl, hg⟩ | ⟨rfl, hg⟩
  · have hlt' : ((k : Nat) : Int) < ((s.length : Nat) : Int) := by omega
    obtain ⟨ga, o, rfl, hcs⟩ : ∃ ga o, a = some ⟨ga, o, none⟩ ∧ ∀ i (h : i < s.length), EntAt w ga (o + i * 7) s[i] := by
      rcases HS.out with h | h
      · rw [h] at hk; simp at hk
      · exact h
    have hent := hcs k hk
    have hgl : ga < w.heap.size := by
      obtain ⟨_, _, _, _, _, _, ⟨k0, -⟩, -⟩ := hent
      exact World.block_lt_of_cell? _ _ k0
    obtain ⟨a1, c1, a2, c2, a3, c3, ⟨k0, k1, k2, k3, k4, k5, k6⟩, hi2⟩ := hent
    have d0 := (B4.cell (p := ⟨ga, o + k * 7, none⟩) hgl).trans k0
    have d1 := (B4.cell (p := ⟨ga, o + k * 7 + 1, none⟩) hgl).trans k1
    have d2 := (B4.cell (p := ⟨ga, o + k * 7 + 2, none⟩) hgl).trans k2
    have d3 := (B4.cell (p := ⟨ga, o + k * 7 + 3, none⟩) hgl).trans k3
    have d4 := (B4.cell (p := ⟨ga, o + k * 7 + 4, none⟩) hgl).trans k4
    have d5 := (B4.cell (p := ⟨ga, o + k * 7 + 5, none⟩) hgl).trans k5
    have d6 := (B4.cell (p := ⟨ga, o + k * 7 + 6, none⟩) hgl).trans k6
    have HM : Hid (∃ x, x ∈ s ∧ thereE key now x = true ∧ x = s[k]) := ⟨s[k], List.getElem_mem hk, hg, rfl⟩
    have HI2 := hide hi2
    clear hcs hg hi2 k0 k1 k2 k3 k4 k5 k6
    generalize s[k] = X at *
    have p0 : w4.cell? ⟨w.heap.size + 1 + 1, 0, none⟩ = some (.string ⟨#[]⟩) := by simp [World.cell?, G4]
    have pf0 : w4.frozen? ⟨w.heap.size + 1 + 1, 0, none⟩ = false := by simp [World.frozen?, G4]
    have p1 : w4.cell? ⟨w.heap.size + 1 + 1, 1, none⟩ = some (.int .i64 0) := by simp [World.cell?, G4]
    have pf1 : w4.frozen? ⟨w.heap.size + 1 + 1, 1, none⟩ = false := by simp [World.frozen?, G4]
    have p2 : w4.cell? ⟨w.heap.size + 1 + 1, 2, none⟩ = some (.string ⟨#[]⟩) := by simp [World.cell?, G4]
    have pf2 : w4.frozen? ⟨w.heap.size + 1 + 1, 2, none⟩ = false := by simp [World.frozen?, G4]
    have p3 : w4.cell? ⟨w.heap.size + 1 + 1, 3, none⟩ = some (.slice none 0 0) := by simp [World.cell?, G4]
    have pf3 : w4.frozen? ⟨w.heap.size + 1 + 1, 3, none⟩ = false := by simp [World.frozen?, G4]
    have p4 : w4.cell? ⟨w.heap.size + 1 + 1, 4, none⟩ = some (.slice none 0 0) := by simp [World.cell?, G4]
    have pf4 : w4.frozen? ⟨w.heap.size + 1 + 1, 4, none⟩ = false := by simp [World.frozen?, G4]
    have p5 : w4.cell? ⟨w.heap.size + 1 + 1, 5, none⟩ = some (.slice none 0 0) := by simp [World.cell?, G4]
    have pf5 : w4.frozen? ⟨w.heap.size + 1 + 1, 5, none⟩ = false := by simp [World.frozen?, G4]
    have p6 : w4.cell? ⟨w.heap.size + 1 + 1, 6, none⟩ = some (.int .i64 0) := by simp [World.cell?, G4]
    have pf6 : w4.frozen? ⟨w.heap.size + 1 + 1, 6, none⟩ = false := by simp [World.frozen?, G4]
    have G5 : (((((((w4.setCell ⟨w.heap.size + 1 + 1, 0, none⟩ (.string X.key)).setCell ⟨w.heap.size + 1 + 1, 1, none⟩ (.int .i64 X.item.k)).setCell ⟨w.heap.size + 1 + 1, 2, none⟩ (.string X.item.t)).setCell ⟨w.heap.size + 1 + 1, 3, none⟩ (.slice a1 X.item.l.length c1)).setCell ⟨w.heap.size + 1 + 1, 4, none⟩ (.slice a2 X.item.p.length c2)).setCell ⟨w.heap.size + 1 + 1, 5, none⟩ (.slice a3 X.item.s.length c3)).setCell ⟨w.heap.size + 1 + 1, 6, none⟩ (.int .i64 X.til)).heap[w.heap.size + 1 + 1]? = some (.cells #[.string X.key, .int .i64 X.item.k, .string X.item.t, .slice a1 X.item.l.length c1, .slice a2 X.item.p.length c2, .slice a3 X.item.s.length c3, .int .i64 X.til] 42 (0, 0)) := by
      rw [(setCell_heapY (setCell_heapY (setCell_heapY (setCell_heapY (setCell_heapY (setCell_heapY (setCell_heapY G4 0 _) 1 _) 2 _) 3 _) 4 _) 5 _) 6 _)]; rfl
    have B5 : Below w.heap.size w (((((((w4.setCell ⟨w.heap.size + 1 + 1, 0, none⟩ (.string X.key)).setCell ⟨w.heap.size + 1 + 1, 1, none⟩ (.int .i64 X.item.k)).setCell ⟨w.heap.size + 1 + 1, 2, none⟩ (.string X.item.t)).setCell ⟨w.heap.size + 1 + 1, 3, none⟩ (.slice a1 X.item.l.length c1)).setCell ⟨w.heap.size + 1 + 1, 4, none⟩ (.slice a2 X.item.p.length c2)).setCell ⟨w.heap.size + 1 + 1, 5, none⟩ (.slice a3 X.item.s.length c3)).setCell ⟨w.heap.size + 1 + 1, 6, none⟩ (.int .i64 X.til)) := (((((((B4.setCell (p := ⟨w.heap.size + 1 + 1, 0, none⟩) (by show w.heap.size ≤ w.heap.size + 1 + 1; omega) _).setCell (p := ⟨w.heap.size + 1 + 1, 1, none⟩) (by show w.heap.size ≤ w.heap.size + 1 + 1; omega) _).setCell (p := ⟨w.heap.size + 1 + 1, 2, none⟩) (by show w.heap.size ≤ w.heap.size + 1 + 1; omega) _).setCell (p := ⟨w.heap.size + 1 + 1, 3, none⟩) (by show w.heap.size ≤ w.heap.size + 1 + 1; omega) _).setCell (p := ⟨w.heap.size + 1 + 1, 4, none⟩) (by show w.heap.size ≤ w.heap.size + 1 + 1; omega) _).setCell (p := ⟨w.heap.size + 1 + 1, 5, none⟩) (by show w.heap.size ≤ w.heap.size + 1 + 1; omega) _).setCell (p := ⟨w.heap.size + 1 + 1, 6, none⟩) (by show w.heap.size ≤ w.heap.size + 1 + 1; omega) _)
    have K5 : Kept (one (w.heap.size + 1 + 1)) w4 (((((((w4.setCell ⟨w.heap.size + 1 + 1, 0, none⟩ (.string X.key)).setCell ⟨w.heap.size + 1 + 1, 1, none⟩ (.int .i64 X.item.k)).setCell ⟨w.heap.size + 1 + 1, 2, none⟩ (.string X.item.t)).setCell ⟨w.heap.size + 1 + 1, 3, none⟩ (.slice a1 X.item.l.length c1)).setCell ⟨w.heap.size + 1 + 1, 4, none⟩ (.slice a2 X.item.p.length c2)).setCell ⟨w.heap.size + 1 + 1, 5, none⟩ (.slice a3 X.item.s.length c3)).setCell ⟨w.heap.size + 1 + 1, 6, none⟩ (.int .i64 X.til)) := ((((((((Kept.refl (one (w.heap.size + 1 + 1)) w4).set1 0 _).set1 1 _).set1 2 _).set1 3 _).set1 4 _).set1 5 _).set1 6 _)
    obtain ⟨W5, hW5⟩ : ∃ W5, (((((((w4.setCell ⟨w.heap.size + 1 + 1, 0, none⟩ (.string X.key)).setCell ⟨w.heap.size + 1 + 1, 1, none⟩ (.int .i64 X.item.k)).setCell ⟨w.heap.size + 1 + 1, 2, none⟩ (.string X.item.t)).setCell ⟨w.heap.size + 1 + 1, 3, none⟩ (.slice a1 X.item.l.length c1)).setCell ⟨w.heap.size + 1 + 1, 4, none⟩ (.slice a2 X.item.p.length c2)).setCell ⟨w.heap.size + 1 + 1, 5, none⟩ (.slice a3 X.item.s.length c3)).setCell ⟨w.heap.size + 1 + 1, 6, none⟩ (.int .i64 X.til)) = W5 := ⟨_, rfl⟩
    rw [hW5] at G5 B5 K5
    have r0 : W5.cell? ⟨w.heap.size + 1 + 1, 0, none⟩ = some (.string X.key) := by simp [World.cell?, G5]
    have r1 : W5.cell? ⟨w.heap.size + 1 + 1, 1, none⟩ = some (.int .i64 X.item.k) := by simp [World.cell?, G5]
    have r2 : W5.cell? ⟨w.heap.size + 1 + 1, 2, none⟩ = some (.string X.item.t) := by simp [World.cell?, G5]
    have r3 : W5.cell? ⟨w.heap.size + 1 + 1, 3, none⟩ = some (.slice a1 X.item.l.length c1) := by simp [World.cell?, G5]
    have r4 : W5.cell? ⟨w.heap.size + 1 + 1, 4, none⟩ = some (.slice a2 X.item.p.length c2) := by simp [World.cell?, G5]
    have r5 : W5.cell? ⟨w.heap.size + 1 + 1, 5, none⟩ = some (.slice a3 X.item.s.length c3) := by simp [World.cell?, G5]
    have r6 : W5.cell? ⟨w.heap.size + 1 + 1, 6, none⟩ = some (.int .i64 X.til) := by simp [World.cell?, G5]
    go_wp2_with fail
    obtain ⟨x, hx1, hx2, rfl⟩ := HM.out
    refine bodyPost_ret (v := .tuple #[.agg #[.string x.key, .int .i64 x.item.k, .string x.item.t, .slice a1 x.item.l.length c1, .slice a2 x.item.p.length c2, .slice a3 x.item.s.length c3, .int .i64 x.til], .bool true]) (by simp [results, Tryz.results253, go_sem, r0, r1, r2, r3, r4, r5, r6]) rfl ⟨.inl ⟨_, x, hx1, hx2, rfl, a1, c1, a2, c2, a3, c3, rfl, HI2.out.below B5⟩, B5⟩
  · have HN := hide hg
    clear hg
    have p0 : w4.cell? ⟨w.heap.size + 1 + 1, 0, none⟩ = some (.string ⟨#[]⟩) := by simp [World.cell?, G4]
    have pf0 : w4.frozen? ⟨w.heap.size + 1 + 1, 0, none⟩ = false := by simp [World.frozen?, G4]
    have p1 : w4.cell? ⟨w.heap.size + 1 + 1, 1, none⟩ = some (.int .i64 0) := by simp [World.cell?, G4]
    have pf1 : w4.frozen? ⟨w.heap.size + 1 + 1, 1, none⟩ = false := by simp [World.frozen?, G4]
    have p2 : w4.cell? ⟨w.heap.size + 1 + 1, 2, none⟩ = some (.string ⟨#[]⟩) := by simp [World.cell?, G4]
    have pf2 : w4.frozen? ⟨w.heap.size + 1 + 1, 2, none⟩ = false := by simp [World.frozen?, G4]
    have p3 : w4.cell? ⟨w.heap.size + 1 + 1, 3, none⟩ = some (.slice none 0 0) := by simp [World.cell?, G4]
    have pf3 : w4.frozen? ⟨w.heap.size + 1 + 1, 3, none⟩ = false := by simp [World.frozen?, G4]
    have p4 : w4.cell? ⟨w.heap.size + 1 + 1, 4, none⟩ = some (.slice none 0 0) := by simp [World.cell?, G4]
    have pf4 : w4.frozen? ⟨w.heap.size + 1 + 1, 4, none⟩ = false := by simp [World.frozen?, G4]
    have p5 : w4.cell? ⟨w.heap.size + 1 + 1, 5, none⟩ = some (.slice none 0 0) := by simp [World.cell?, G4]
    have pf5 : w4.frozen? ⟨w.heap.size + 1 + 1, 5, none⟩ = false := by simp [World.frozen?, G4]
    have p6 : w4.cell? ⟨w.heap.size + 1 + 1, 6, none⟩ = some (.int .i64 0) := by simp [World.cell?, G4]
    have pf6 : w4.frozen? ⟨w.heap.size + 1 + 1, 6, none⟩ = false := by simp [World.frozen?, G4]
    have G5 : (((((((w4.setCell ⟨w.heap.size + 1 + 1, 0, none⟩ (.string ⟨#[]⟩)).setCell ⟨w.heap.size + 1 + 1, 1, none⟩ (.int .i64 0)).setCell ⟨w.heap.size + 1 + 1, 2, none⟩ (.string ⟨#[]⟩)).setCell ⟨w.heap.size + 1 + 1, 3, none⟩ (.slice none 0 0)).setCell ⟨w.heap.size + 1 + 1, 4, none⟩ (.slice none 0 0)).setCell ⟨w.heap.size + 1 + 1, 5, none⟩ (.slice none 0 0)).setCell ⟨w.heap.size + 1 + 1, 6, none⟩ (.int .i64 0)).heap[w.heap.size + 1 + 1]? = some (.cells #[.string ⟨#[]⟩, .int .i64 0, .string ⟨#[]⟩, .slice none 0 0, .slice none 0 0, .slice none 0 0, .int .i64 0] 42 (0, 0)) := by
      rw [(setCell_heapY (setCell_heapY (setCell_heapY (setCell_heapY (setCell_heapY (setCell_heapY (setCell_heapY G4 0 _) 1 _) 2 _) 3 _) 4 _) 5 _) 6 _)]; rfl
    have B5 : Below w.heap.size w (((((((w4.setCell ⟨w.heap.size + 1 + 1, 0, none⟩ (.string ⟨#[]⟩)).setCell ⟨w.heap.size + 1 + 1, 1, none⟩ (.int .i64 0)).setCell ⟨w.heap.size + 1 + 1, 2, none⟩ (.string ⟨#[]⟩)).setCell ⟨w.heap.size + 1 + 1, 3, none⟩ (.slice none 0 0)).setCell ⟨w.heap.size + 1 + 1, 4, none⟩ (.slice none 0 0)).setCell ⟨w.heap.size + 1 + 1, 5, none⟩ (.slice none 0 0)).setCell ⟨w.heap.size + 1 + 1, 6, none⟩ (.int .i64 0)) := (((((((B4.setCell (p := ⟨w.heap.size + 1 + 1, 0, none⟩) (by show w.heap.size ≤ w.heap.size + 1 + 1; omega) _).setCell (p := ⟨w.heap.size + 1 + 1, 1, none⟩) (by show w.heap.size ≤ w.heap.size + 1 + 1; omega) _).setCell (p := ⟨w.heap.size + 1 + 1, 2, none⟩) (by show w.heap.size ≤ w.heap.size + 1 + 1; omega) _).setCell (p := ⟨w.heap.size + 1 + 1, 3, none⟩) (by show w.heap.size ≤ w.heap.size + 1 + 1; omega) _).setCell (p := ⟨w.heap.size + 1 + 1, 4, none⟩) (by show w.heap.size ≤ w.heap.size + 1 + 1; omega) _).setCell (p := ⟨w.heap.size + 1 + 1, 5, none⟩) (by show w.heap.size ≤ w.heap.size + 1 + 1; omega) _).setCell (p := ⟨w.heap.size + 1 + 1, 6, none⟩) (by show w.heap.size ≤ w.heap.size + 1 + 1; omega) _)
    obtain ⟨W5, hW5⟩ : ∃ W5, (((((((w4.setCell ⟨w.heap.size + 1 + 1, 0, none⟩ (.string ⟨#[]⟩)).setCell ⟨w.heap.size + 1 + 1, 1, none⟩ (.int .i64 0)).setCell ⟨w.heap.size + 1 + 1, 2, none⟩ (.string ⟨#[]⟩)).setCell ⟨w.heap.size + 1 + 1, 3, none⟩ (.slice none 0 0)).setCell ⟨w.heap.size + 1 + 1, 4, none⟩ (.slice none 0 0)).setCell ⟨w.heap.size + 1 + 1, 5, none⟩ (.slice none 0 0)).setCell ⟨w.heap.size + 1 + 1, 6, none⟩ (.int .i64 0)) = W5 := ⟨_, rfl⟩
    rw [hW5] at G5 B5
    have r0 : W5.cell? ⟨w.heap.size + 1 + 1, 0, none⟩ = some (.string ⟨#[]⟩) := by simp [World.cell?, G5]
    have r1 : W5.cell? ⟨w.heap.size + 1 + 1, 1, none⟩ = some (.int .i64 0) := by simp [World.cell?, G5]
    have r2 : W5.cell? ⟨w.heap.size + 1 + 1, 2, none⟩ = some (.string ⟨#[]⟩) := by simp [World.cell?, G5]
    have r3 : W5.cell? ⟨w.heap.size + 1 + 1, 3, none⟩ = some (.slice none 0 0) := by simp [World.cell?, G5]
    have r4 : W5.cell? ⟨w.heap.size + 1 + 1, 4, none⟩ = some (.slice none 0 0) := by simp [World.cell?, G5]
    have r5 : W5.cell? ⟨w.heap.size + 1 + 1, 5, none⟩ = some (.slice none 0 0) := by simp [World.cell?, G5]
    have r6 : W5.cell? ⟨w.heap.size + 1 + 1, 6, none⟩ = some (.int .i64 0) := by simp [World.cell?, G5]
    go_wp2_with fail
    refine bodyPost_ret (v := .tuple #[zeroE, .bool false]) (by simp [results, Tryz.results253, go_sem, zeroE, r0, r1, r2, r3, r4, r5, r6]) rfl ⟨.inr ⟨rfl, HN.out⟩, B5⟩
end Go.Proofs.YtmaancidkpfopaaGreatDoor

/- WALKS of spaces: Until. -/
namespace Go.Proofs.YtmaancidkpfopaaGreatDoor
open Go.RowKit

/-- what Until answers -/
def UntilPost (s : List Ent) (now : Int) (key : ByteArray) (w : World) (e : Ending) (w' : World) : Prop :=
  ((chkKey s now key ≠ 0 ∧ e = .returned (.tuple #[.int .i64 0, .int .i64 (chkKey s now key)])) ∨
   (chkKey s now key = 0 ∧ ((∃ x, x ∈ s ∧ thereE key now x = true ∧ e = .returned (.tuple #[.int .i64 x.til, .int .i64 0])) ∨ (e = .returned (.tuple #[.int .i64 0, .int .i64 5]) ∧ ∀ x ∈ s, thereE key now x = false)))) ∧ Below w.heap.size w w'
set_option maxRecDepth 100000 in
set_option maxHeartbeats 1000000 in
theorem until_any (a : Option Addr) (c : Nat) (s : List Ent) (now : Int) (key : ByteArray) (w : World) (hs : SpaceAt w a s) (hn : s.length ≤ 281474976710656) :
    Calls Tryz.prog 220 #[.slice a s.length c, .int .i64 now, .string key] w (UntilPost s now key w) := by
  have HC := hide (checkKey_any a c s now key w hs (by omega))
  unfold UntilPost
  by_cases h0 : chkKey s now key = 0
  · have hn2 := small_key h0
    have HF : Hid (∀ W, Below w.heap.size w W → Calls Tryz.prog 253 #[.slice a s.length c, .int .i64 now, .string key] W (FindPost s now key W)) := fun W hW => find_any a c s now key W (hs.below hW) hn2
    clear hs hn2
    rw [h0] at HC
    have HZ := hide h0
    clear h0
    go_enter Tryz.func220, Tryz.ntmps220
    go_wp2_with fail
    refine HC.out.mono ?_
    rintro e w1 ⟨rfl, hb1⟩
    go_wp2_with fail
    refine (HF.out w1 hb1).mono ?_
    rintro e w2 ⟨hor, hb2⟩
    have B2 := hb1.trans (hb2.mono hb1.size)
    clear hb2 HF HC
    rcases hor with ⟨v, x, hx1, hx2, rfl, a1, c1, a2, c2, a3, c3, rfl, hi⟩ | ⟨rfl, hx⟩
    · have HX := hide (And.intro hx1 hx2)
      clear hx1 hx2 hi
      go_wp2_with fail
      refine bodyPost_ret (v := .tuple #[.int .i64 x.til, .int .i64 0]) (by simp [results, Tryz.results220, go_sem]) rfl ⟨.inr ⟨HZ.out, .inl ⟨x, HX.out.1, HX.out.2, rfl⟩⟩, B2.alloc B2.size _⟩
    · have HX := hide hx
      clear hx
      unfold zeroE
      go_wp2_with fail
      refine bodyPost_ret (v := .tuple #[.int .i64 0, .int .i64 5]) (by simp [results, Tryz.results220, go_sem]) rfl ⟨.inr ⟨HZ.out, .inr ⟨rfl, HX.out⟩⟩, B2.alloc B2.size _⟩
  · have h0' : (chkKey s now key == 0) = false := by rw [beq_eq_false_iff_ne]; exact h0
    have HZ := hide h0
    clear h0 hs
    go_enter Tryz.func220, Tryz.ntmps220
    go_wp2_with fail
    refine HC.out.mono ?_
    rintro e w1 ⟨rfl, hb1⟩
    go_wp2_with fail
    refine bodyPost_ret (v := .tuple #[.int .i64 0, .int .i64 (chkKey s now key)]) (by simp [results, Tryz.results220, go_sem]) rfl ⟨.inl ⟨HZ.out, rfl⟩, hb1⟩
end Go.Proofs.YtmaancidkpfopaaGreatDoor

/- An item's bytes, as plain data. -/
namespace Go.Proofs.YtmaancidkpfopaaGreatDoor

/-- a text: how many bytes, and they -/
def encT (t : ByteArray) : List UInt8 := UInt8.ofNat t.size :: t.data.toList
/-- a score's number: four bytes -/
def num4 (n : Int) : List UInt8 := [UInt8.ofNat ((n + 999999999).toNat / 16777216), UInt8.ofNat ((n + 999999999).toNat / 65536), UInt8.ofNat ((n + 999999999).toNat / 256), UInt8.ofNat (n + 999999999).toNat]
def encP (p : ByteArray × ByteArray) : List UInt8 := encT p.1 ++ encT p.2
def encS (s : Int × ByteArray) : List UInt8 := num4 s.1 ++ encT s.2
def manyI (x : Itm) : Nat := x.l.length + x.p.length + x.s.length
def bodyI (x : Itm) : List UInt8 := (x.l.map encT).flatten ++ (x.p.map encP).flatten ++ (x.s.map encS).flatten
/-- the bytes of an item that is right -/
def encI (x : Itm) : List UInt8 := if x.k = 1 then 1 :: x.t.data.toList else UInt8.ofNat x.k.toNat :: UInt8.ofNat (manyI x) :: bodyI x
theorem flat_take {α : Type} (f : α → List UInt8) (l : List α) {k : Nat} (h : k < l.length) : ((l.take (k + 1)).map f).flatten = ((l.take k).map f).flatten ++ f l[k] := by
  rw [List.take_succ_eq_append_getElem h, List.map_append, List.flatten_append]
  simp
theorem flat_len {α : Type} (f : α → List UInt8) (m : Nat) : ∀ l : List α, (∀ a ∈ l, (f a).length ≤ m) → (l.map f).flatten.length ≤ l.length * m
  | [], _ => by simp
  | a :: l, h => by
    have h1 := h a (by simp)
    have h2 := flat_len f m l (fun b hb => h b (by simp [hb]))
    simp only [List.map_cons, List.flatten_cons, List.length_append, List.length_cons]
    rw [Nat.add_mul, Nat.one_mul]
    omega
theorem byteCells_app (a b : List UInt8) : Go.Lib.byteCells a ++ Go.Lib.byteCells b = Go.Lib.byteCells (a ++ b) := by simp [Go.Lib.byteCells]
theorem strCells_list (s : ByteArray) : Go.Lib.strCells s = Go.Lib.byteCells s.data.toList := by simp [Go.Lib.strCells, Go.Lib.byteCells]
theorem ofNat_nat (n : Nat) : (UInt8.ofNat n).toNat = n % 256 := by simp
theorem byte_cell (n : Nat) : [Go.Value.int .u8 (((n % 256 : Nat) : Int))] = Go.Lib.byteCells [UInt8.ofNat n] := by simp [Go.Lib.byteCells]
end Go.Proofs.YtmaancidkpfopaaGreatDoor

/- What an item that is right has. -/
namespace Go.Proofs.YtmaancidkpfopaaGreatDoor

theorem any_long_not {l : List ByteArray} (h : l.any longT = false) : ∀ t ∈ l, t.size ≤ 60 := fun t ht => by
  have := List.any_eq_false.1 h t ht
  simp only [longT, decide_eq_true_eq] at this
  omega
theorem any_longP_not {l : List (ByteArray × ByteArray)} (h : l.any longP = false) : ∀ t ∈ l, t.1.size ≤ 60 ∧ t.2.size ≤ 60 := fun t ht => by
  have := List.any_eq_false.1 h t ht
  simp only [longP, longT, Bool.or_eq_true, decide_eq_true_eq] at this
  omega
theorem any_longS_not {l : List (Int × ByteArray)} (h : l.any longS = false) : ∀ t ∈ l, t.2.size ≤ 60 := fun t ht => by
  have := List.any_eq_false.1 h t ht
  simp only [longS, longT, decide_eq_true_eq] at this
  omega
theorem any_outS_not {l : List (Int × ByteArray)} (h : ¬ l.any outS = true) : ∀ t ∈ l, -999999999 ≤ t.1 ∧ t.1 ≤ 999999999 := fun t ht => by
  have h' : l.any outS = false := by cases hb : l.any outS; rfl; exact absurd hb h
  have := List.any_eq_false.1 h' t ht
  simp only [outS, Bool.or_eq_true, decide_eq_true_eq] at this
  omega
/-- what an item that is right has -/
structure Right (x : Itm) : Prop where
  k1 : 1 ≤ x.k
  k5 : x.k ≤ 5
  tz : x.t.size ≤ 60
  lz : ∀ t ∈ x.l, t.size ≤ 60
  ln : x.l.length ≤ 24
  pz : ∀ t ∈ x.p, t.1.size ≤ 60 ∧ t.2.size ≤ 60
  pn : x.p.length ≤ 24
  sz : ∀ t ∈ x.s, t.2.size ≤ 60
  sr : ∀ t ∈ x.s, -999999999 ≤ t.1 ∧ t.1 ≤ 999999999
  sn : x.s.length ≤ 24
  ot : otherI x = false
theorem text_nil {t : ByteArray} (h : t.toList = []) : t.size = 0 := by
  rw [ByteArray.toList_eq] at h
  have := congrArg List.length h
  rw [Array.length_toList] at this
  exact this
theorem right_of {x : Itm} (h : chkI x = 0) : Right x := by
  unfold chkI at h
  split at h
  · cases h
  rename_i hk
  split at h
  · cases h
  rename_i ho
  have ho' : otherI x = false := by cases hb : otherI x; rfl; exact absurd hb ho
  have hd := ho
  unfold otherI at hd
  rw [decide_eq_true_eq] at hd
  have ht : x.k = 1 ∨ x.t.size = 0 := by
    by_cases h1 : x.k = 1
    · exact .inl h1
    · exact .inr (text_nil (Classical.byContradiction fun h2 => hd (.inl ⟨h1, h2⟩)))
  have hl : (x.k = 2 ∨ x.k = 3) ∨ x.l = [] := by
    by_cases h1 : x.k = 2 ∨ x.k = 3
    · exact .inl h1
    · refine .inr (Classical.byContradiction fun h2 => hd (.inr (.inl ⟨h1, ?_⟩)))
      exact List.length_pos_iff.2 h2
  have hp : x.k = 4 ∨ x.p = [] := by
    by_cases h1 : x.k = 4
    · exact .inl h1
    · exact .inr (Classical.byContradiction fun h2 => hd (.inr (.inr (.inl ⟨h1, List.length_pos_iff.2 h2⟩))))
  have hs : x.k = 5 ∨ x.s = [] := by
    by_cases h1 : x.k = 5
    · exact .inl h1
    · exact .inr (Classical.byContradiction fun h2 => hd (.inr (.inr (.inr ⟨h1, List.length_pos_iff.2 h2⟩))))
  have e0 : ∀ {α : Type} {l : List α} {P : α → Prop}, l = [] → ∀ t ∈ l, P t := fun e t ht => by rw [e] at ht; cases ht
  have n0 : ∀ {α : Type} {l : List α}, l = [] → l.length ≤ 24 := fun e => by rw [e]; simp
  split at h
  · rename_i h2
    have h4 := sizeT_small h
    have h5 := sizeT_short h
    exact ⟨by omega, by omega, by omega, any_long_not h5, h4, e0 (hp.resolve_left (by omega)), n0 (hp.resolve_left (by omega)), e0 (hs.resolve_left (by omega)), e0 (hs.resolve_left (by omega)), n0 (hs.resolve_left (by omega)), ho'⟩
  · split at h
    · rename_i h2 h3
      unfold setT at h
      split at h
      · rename_i h6; exact absurd h h6
      · rename_i h6
        have h6' := Classical.byContradiction h6
        exact ⟨by omega, by omega, by omega, any_long_not (sizeT_short h6'), sizeT_small h6', e0 (hp.resolve_left (by omega)), n0 (hp.resolve_left (by omega)), e0 (hs.resolve_left (by omega)), e0 (hs.resolve_left (by omega)), n0 (hs.resolve_left (by omega)), ho'⟩
    · split at h
      · rename_i h2 h3 h4
        unfold hashT at h
        split at h
        · rename_i h6; exact absurd h h6
        · rename_i h6
          have h6' := Classical.byContradiction h6
          exact ⟨by omega, by omega, by omega, e0 (hl.resolve_left (by omega)), n0 (hl.resolve_left (by omega)), any_longP_not (sizeT_short h6'), sizeT_small h6', e0 (hs.resolve_left (by omega)), e0 (hs.resolve_left (by omega)), n0 (hs.resolve_left (by omega)), ho'⟩
      · split at h
        · rename_i h2 h3 h4 h5
          unfold scoreT at h
          split at h
          · rename_i h6; exact absurd h h6
          · rename_i h6
            have h6' := Classical.byContradiction h6
            split at h
            · cases h
            · rename_i h7
              exact ⟨by omega, by omega, by omega, e0 (hl.resolve_left (by omega)), n0 (hl.resolve_left (by omega)), e0 (hp.resolve_left (by omega)), n0 (hp.resolve_left (by omega)), any_longS_not (sizeT_short h6'), any_outS_not h7, sizeT_small h6', ho'⟩
        · rename_i h2 h3 h4 h5
          split at h
          · cases h
          · rename_i h6
            have h7 : x.t.size ≤ 60 := by simp only [longT, decide_eq_true_eq] at h6; omega
            exact ⟨by omega, by omega, h7, e0 (hl.resolve_left (by omega)), n0 (hl.resolve_left (by omega)), e0 (hp.resolve_left (by omega)), n0 (hp.resolve_left (by omega)), e0 (hs.resolve_left (by omega)), e0 (hs.resolve_left (by omega)), n0 (hs.resolve_left (by omega)), ho'⟩
end Go.Proofs.YtmaancidkpfopaaGreatDoor

/- WALKS of what the layers of items have in common: nothing, or of a kind. -/
namespace Go.Proofs.YtmaancidkpfopaaGreatDoor
open Go.RowKit

set_option maxRecDepth 100000 in
set_option maxHeartbeats 4000000 in
theorem isNothing_any (k : Int) (t : ByteArray) (a1 a2 a3 : Option Addr) (n1 n2 n3 c1 c2 c3 : Nat) (w : World) :
    Calls Tryz.prog 160 #[.agg #[.int .i64 k, .string t, .slice a1 n1 c1, .slice a2 n2 c2, .slice a3 n3 c3]] w fun e w' => e = .returned (.bool (decide (k = 0 ∧ t.toList = [] ∧ n1 = 0 ∧ n2 = 0 ∧ n3 = 0))) ∧ Below w.heap.size w w' := by
  go_enter Tryz.func160, Tryz.ntmps160
  go_wp2
  all_goals go_ret
  all_goals refine ⟨?_, (Below.refl _ _).alloc (Nat.le_refl _) _⟩
  all_goals first | (simp [*]; done) | (simp [*]; rw [Bool.eq_iff_iff]; simp; done)
theorem isNone_len (x : Itm) : decide (x.k = 0 ∧ x.t.toList = [] ∧ x.l.length = 0 ∧ x.p.length = 0 ∧ x.s.length = 0) = x.isNone := by
  unfold Itm.isNone
  simp

/-- what is wrong with an item; nothing is right -/
def rightI (x : Itm) : Int := if x.isNone = true then 0 else chkI x
theorem asI_right (x : Itm) (kind : Int) : asI x kind = if rightI x ≠ 0 then rightI x else if x.isNone = true then 0 else if x.k ≠ kind then 7 else 0 := by
  unfold asI rightI
  cases x.isNone <;> simp
set_option maxRecDepth 100000 in
set_option maxHeartbeats 4000000 in
theorem right_any (v : Value) (x : Itm) (w : World) (h : ItemIs w v x) :
    Calls Tryz.prog 195 #[v] w fun e w' => e = .returned (.int .i64 (rightI x)) ∧ Below w.heap.size w w' := by
  have HI := hide h
  obtain ⟨⟨a1, c1, a2, c2, a3, c3, rfl, -, -, -⟩, -, -, -, -, -, -, -⟩ := h
  have HN : Hid (∀ W, Calls Tryz.prog 160 #[.agg #[.int .i64 x.k, .string x.t, .slice a1 x.l.length c1, .slice a2 x.p.length c2, .slice a3 x.s.length c3]] W fun e w' => e = .returned (.bool x.isNone) ∧ Below W.heap.size W w') := fun W => by rw [← isNone_len]; exact isNothing_any x.k x.t a1 a2 a3 x.l.length x.p.length x.s.length c1 c2 c3 W
  have HC : Hid (∀ W, Below w.heap.size w W → Calls Tryz.prog 29 #[.agg #[.int .i64 x.k, .string x.t, .slice a1 x.l.length c1, .slice a2 x.p.length c2, .slice a3 x.s.length c3]] W fun e w' => e = .returned (.int .i64 (chkI x)) ∧ Below W.heap.size W w') := fun W hW => check_any _ x W (HI.out.below hW)
  clear HI
  unfold rightI
  cases hn : x.isNone with
  | true =>
    rw [hn] at HN
    rw [if_pos rfl]
    clear hn
    go_enter Tryz.func195, Tryz.ntmps195
    go_wp2_with fail
    refine (HN.out _).mono ?_
    rintro e w1 ⟨rfl, hb1⟩
    obtain ⟨hc, hf⟩ := bcell hb1
    have hz : w.heap.size < w1.heap.size := by have := hb1.size; simp at this; omega
    have hB1 : Below w.heap.size w w1 := ((Below.refl _ w).alloc (Nat.le_refl _) _).trans (hb1.mono (by simp))
    go_wp2_with fail
    go_ret
    exact ⟨rfl, hB1⟩
  | false =>
    rw [hn] at HN
    rw [if_neg (by decide)]
    clear hn
    generalize chkI x = C at *
    generalize x.l.length = n1 at *
    generalize x.p.length = n2 at *
    generalize x.s.length = n3 at *
    generalize x.k = k at *
    generalize x.t = t at *
    go_enter Tryz.func195, Tryz.ntmps195
    go_wp2_with fail
    refine (HN.out _).mono ?_
    rintro e w1 ⟨rfl, hb1⟩
    obtain ⟨hc, hf⟩ := bcell hb1
    have hz : w.heap.size < w1.heap.size := by have := hb1.size; simp at this; omega
    have hB1 : Below w.heap.size w w1 := ((Below.refl _ w).alloc (Nat.le_refl _) _).trans (hb1.mono (by simp))
    go_wp2_with fail
    refine (HC.out w1 hB1).mono ?_
    rintro e w2 ⟨rfl, hb2⟩
    obtain ⟨hc2, hf2⟩ := bcell hb2
    have hz2 : w.heap.size < w2.heap.size := by have := hb2.size; omega
    have hB2 : Below w.heap.size w w2 := hB1.trans (hb2.mono hB1.size)
    go_wp2_with fail
    go_ret
    exact ⟨rfl, hB2⟩
end Go.Proofs.YtmaancidkpfopaaGreatDoor

/- An item, a space of one's own, as ones that lie in memory. -/
namespace Go.Proofs.YtmaancidkpfopaaGreatDoor
open Go.RowKit

theorem textsY {w : World} {B : Nat} {a : Option Addr} {cap : Nat} {xs : List ByteArray} (h : w.ownsRow B 9 1 (.slice a xs.length cap) xs.length (YT.strs xs)) : TextsAt w a xs := by
  rcases h.2 with ⟨hv, h0⟩ | ⟨g, cp, cur, hv, hg, _⟩
  · exact .inl (List.eq_nil_of_length_eq_zero h0)
  · injection hv with h1 h2 h3
    subst h1
    refine .inr ⟨g, 0, rfl, fun i hi => ?_⟩
    rw [Nat.zero_add, h.cellAt i (by omega)]
    simp [YT.strs, hi]
theorem pairsY {w : World} {B : Nat} {a : Option Addr} {cap : Nat} {xs : List (ByteArray × ByteArray)} (h : w.ownsRow B 70 2 (.slice a xs.length cap) xs.length (YP.rowP xs)) : PairsAt w a xs := by
  rcases h.2 with ⟨hv, h0⟩ | ⟨g, cp, cur, hv, hg, _⟩
  · exact .inl (List.eq_nil_of_length_eq_zero h0)
  · injection hv with h1 h2 h3
    subst h1
    refine .inr ⟨g, 0, rfl, fun i hi => ?_⟩
    obtain ⟨r1, r2⟩ := YP.rowP_at xs i hi
    rw [Nat.zero_add]
    exact ⟨by rw [h.cellAt _ (by omega)]; exact r1, by rw [h.cellAt _ (by omega)]; exact r2⟩
theorem scoresY {w : World} {B : Nat} {a : Option Addr} {cap : Nat} {xs : List (Int × ByteArray)} (h : w.ownsRow B 72 2 (.slice a xs.length cap) xs.length (YS.rowP xs)) : ScoresAt w a xs := by
  rcases h.2 with ⟨hv, h0⟩ | ⟨g, cp, cur, hv, hg, _⟩
  · exact .inl (List.eq_nil_of_length_eq_zero h0)
  · injection hv with h1 h2 h3
    subst h1
    refine .inr ⟨g, 0, rfl, fun i hi => ?_⟩
    obtain ⟨r1, r2⟩ := YS.rowP_at xs i hi
    rw [Nat.zero_add]
    exact ⟨by rw [h.cellAt _ (by omega)]; exact r1, by rw [h.cellAt _ (by omega)]; exact r2⟩
/-- what an item that is right, or nothing, has -/
structure Sized (x : Itm) : Prop where
  tz : x.t.size ≤ 60
  lz : ∀ t ∈ x.l, t.size ≤ 60
  ln : x.l.length ≤ 24
  pz : ∀ t ∈ x.p, t.1.size ≤ 60 ∧ t.2.size ≤ 60
  pn : x.p.length ≤ 24
  sz : ∀ t ∈ x.s, t.2.size ≤ 60
  sn : x.s.length ≤ 24
theorem sizedI {x : Itm} (hr : rightI x = 0) : Sized x := by
  by_cases hn : x.isNone = true
  · unfold Itm.isNone at hn
    rw [decide_eq_true_eq] at hn
    obtain ⟨k0, t0, l0, p0, s0⟩ := hn
    have ht := text_nil t0
    exact ⟨by omega, by simp [l0], by simp [l0], by simp [p0], by simp [p0], by simp [s0], by simp [s0]⟩
  · have hc : chkI x = 0 := by unfold rightI at hr; rwa [if_neg hn] at hr
    have R := right_of hc
    exact ⟨R.tz, R.lz, R.ln, R.pz, R.pn, R.sz, R.sn⟩
theorem chk_rightI {x : Itm} (h : chkI x = 0) : rightI x = 0 := by
  unfold rightI
  split
  · rfl
  · exact h
theorem none_isNone : Itm.none.isNone = true := by decide +kernel
theorem none_rightI : rightI Itm.none = 0 := by unfold rightI; rw [if_pos none_isNone]
theorem Sized.fits {x : Itm} (h : Sized x) : Fits x := ⟨by have := h.ln; omega, by have := h.pn; omega, by have := h.sn; omega⟩
theorem fits_sp {s : List Ent} (h : chkSp s = 0) : ∀ x ∈ s, Fits x.item := fun x hx => (sizedI (chk_rightI (chkE_right ((spRight h).e x hx)).2.1)).fits
theorem OwnItem.is {B : Nat} {w : World} {v : Value} {x : Itm} (h : OwnItem B w v x) (hr : rightI x = 0) : ItemIs w v x := by
  obtain ⟨a1, c1, a2, c2, a3, c3, e, h1, h2, h3⟩ := h
  have S := sizedI hr
  have hm : (60 : Nat) ≤ maxLen := by unfold maxLen; omega
  exact ⟨⟨a1, c1, a2, c2, a3, c3, e, textsY h1, pairsY h2, scoresY h3⟩, Nat.le_trans S.tz hm, fun t ht => Nat.le_trans (S.lz t ht) hm, fun t ht => ⟨Nat.le_trans (S.pz t ht).1 hm, Nat.le_trans (S.pz t ht).2 hm⟩, fun t ht => Nat.le_trans (S.sz t ht) hm, by have := S.ln; omega, by have := S.pn; omega, by have := S.sn; omega⟩
theorem rowE_get (l : List (Ent × Sls)) (i j : Nat) (hi : i < l.length) (hj : j < 7) : (rowE l)[i * 7 + j]? = (cellsE l[i])[j]? := by
  induction l generalizing i with
  | nil => simp at hi
  | cons p r ih =>
    have e : rowE (p :: r) = cellsE p ++ rowE r := by simp [rowE]
    have hl : (cellsE p).length = 7 := rfl
    rw [e]
    cases i with
    | zero => rw [List.getElem?_append_left (by omega)]; simp
    | succ i => rw [List.getElem?_append_right (by omega), hl, show (i + 1) * 7 + j - 7 = i * 7 + j by omega, ih i (by simpa using hi)]; simp
theorem OwnSp.at {B : Nat} {w : World} {V : Value} {l : List (Ent × Sls)} (h : OwnSp B w V l) (hr : ∀ y ∈ l, rightI y.1.item = 0) : ∃ a c, V = .slice a l.length c ∧ SpaceAt w a (l.map Prod.fst) := by
  rcases h.row.2 with ⟨rfl, h0⟩ | ⟨g, cp, cur, rfl, hg, _⟩
  · obtain rfl : l = [] := List.eq_nil_of_length_eq_zero h0
    exact ⟨none, 0, rfl, .inl rfl⟩
  · refine ⟨some ⟨g, 0, none⟩, cp, rfl, .inr ⟨g, 0, rfl, fun i hi => ?_⟩⟩
    have hi' : i < l.length := by simpa using hi
    have hmem : l[i] ∈ l := List.getElem_mem hi'
    have hit := (h.its _ hmem).is (hr _ hmem)
    have hc : ∀ j, j < 7 → w.cell? ⟨g, 0 + i * 7 + j, none⟩ = (cellsE l[i])[j]? := fun j hj => by
      rw [Nat.zero_add, h.row.cellAt (i * 7 + j) (by omega)]
      exact rowE_get l i j hi' hj
    have hc0 : w.cell? ⟨g, 0 + i * 7, none⟩ = (cellsE l[i])[0]? := hc 0 (by omega)
    rw [List.getElem_map]
    exact ⟨l[i].2.1.1, l[i].2.1.2, l[i].2.2.1.1, l[i].2.2.1.2, l[i].2.2.2.1, l[i].2.2.2.2, ⟨hc0, hc 1 (by omega), hc 2 (by omega), hc 3 (by omega), hc 4 (by omega), hc 5 (by omega), hc 6 (by omega)⟩, hit⟩
end Go.Proofs.YtmaancidkpfopaaGreatDoor

