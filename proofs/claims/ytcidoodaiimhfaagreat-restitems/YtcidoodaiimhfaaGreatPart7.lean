/- Part 7 of what the proof leans on: YWo, YChk2, YSw, YOwnI, QSp, QWet, QCp, QLd, QLaw, QCon, IOpen. -/
import Derived.Test.YtcidoodaiimhfaaGreatPart6
import Derived.Handy
import Derived.Test.YtcidoodaiimhfaaGreatPart1
import Derived.Test.YtcidoodaiimhfaaGreatPart3
import Derived.Test.YtcidoodaiimhfaaGreatPart2
import Derived.Test.YtcidoodaiimhfaaGreatPart4
import Derived.Test.YtcidoodaiimhfaaGreatPart5
import Derived.Test.YtcidoodaiimhfaaGreatRows
import Derived.ProofKit
import Derived.OpenShut
import Derived.Deep.Slices
import Derived.SizedLaws
/- WALKS of spaces: without. -/
namespace Go.Proofs.YtcidoodaiimhfaaGreat
open Go.RowKit

set_option maxRecDepth 100000 in
set_option maxHeartbeats 4000000 in
theorem without_swept (b : Nat) (g : Ent → Bool) (a : Option Addr) (c : Nat) (s : List Ent) (w : World) (hs : SpaceAt w a s) (hn : s.length ≤ 1000000) (hf : ∀ x ∈ s, Fits x.item)
    (hg : ∀ x ∈ s, ∀ v W, Below w.heap.size w W → EntIs W v x → Calls Tryz.prog 138 #[v, .pointer (some ⟨b, 0, none⟩)] W fun e w' => e = .returned (.bool (g x)) ∧ Below W.heap.size W w') :
    Calls Tryz.prog 55 #[.slice a s.length c, .func (.func 138) #[] #[.pointer (some ⟨b, 0, none⟩)]] w fun e w' => ∃ V l, e = .returned V ∧ l.map Prod.fst = s.filter (fun x => !g x) ∧ OwnSp w.heap.size w' V l ∧ Below w.heap.size w w' := by
  obtain ⟨iE, hi, hz0, hzE, hz2⟩ := info_parts infoEnt
  have HS := hide hs
  have HG := hide hg
  have HFI := hide hf
  clear hs hg hf
  go_enter Tryz.func55, Tryz.ntmps55
  go_wp2_with fail
  go_loopw [5, 10] (fun V i wr => ∃ (k : Nat) (l : List (Ent × Sls)), k ≤ s.length ∧ i = .int .i64 k ∧ l.length ≤ k ∧ Hid (l.map Prod.fst = (s.take k).filter (fun x => !g x)) ∧ OwnSp w.heap.size wr V l ∧ Below w.heap.size w wr) (fun _ i _ => s.length - (intOf i).toNat)
  case atStart => exact ⟨0, [], Nat.zero_le _, rfl, Nat.le_refl _, rfl, ⟨World.ownsRow_nil _ _ _ _, by simp⟩, Below.refl _ _⟩
  case round =>
    obtain ⟨k, l, hk, rfl, hlk, HL, hown, hbr⟩ := hrel
    have hsz := hbr.size
    by_cases hlt : k < s.length
    · have hlt' : ((k : Nat) : Int) < ((s.length : Nat) : Int) := by omega
      obtain ⟨ga, o, rfl, hcs⟩ : ∃ ga o, a = some ⟨ga, o, none⟩ ∧ ∀ i (h : i < s.length), EntAt w ga (o + i * 7) s[i] := by
        rcases HS.out with h | h
        · rw [h] at hlt; simp at hlt
        · exact h
      obtain ⟨a1, c1, a2, c2, a3, c3, ⟨d0, d1, d2, d3, d4, d5, d6⟩, hi2⟩ := (hcs k hlt).below hbr
      have HFX := hide (HFI.out s[k] (List.getElem_mem hlt))
      have HNX : Hid (∀ l' : List (Ent × Sls), l'.map Prod.fst = (if g s[k] = true then l.map Prod.fst else l.map Prod.fst ++ [s[k]]) → l'.map Prod.fst = (s.take (k + 1)).filter (fun x => !g x)) := fun l' h => by
        rw [h, List.take_succ_eq_append_getElem hlt, List.filter_append, ← HL.out]
        cases hgx : g s[k] <;> simp [hgx]
      have HGX := hide (HG.out s[k] (List.getElem_mem hlt))
      clear hcs HL
      generalize s[k] = X at *
      have CA := (Below.refl wr.heap.size wr).alloc (Nat.le_refl _) (.cells #[.string X.key, .int .i64 X.item.k, .string X.item.t, .slice a1 X.item.l.length c1, .slice a2 X.item.p.length c2, .slice a3 X.item.s.length c3, .int .i64 X.til] 45)
      have AH := allocY_new wr (.cells #[.string X.key, .int .i64 X.item.k, .string X.item.t, .slice a1 X.item.l.length c1, .slice a2 X.item.p.length c2, .slice a3 X.item.s.length c3, .int .i64 X.til] 45)
      obtain ⟨W1, hW1⟩ : ∃ W1, wr.alloc (.cells #[.string X.key, .int .i64 X.item.k, .string X.item.t, .slice a1 X.item.l.length c1, .slice a2 X.item.p.length c2, .slice a3 X.item.s.length c3, .int .i64 X.til] 45) = W1 := ⟨_, rfl⟩
      rw [hW1] at CA AH
      have hz1 : wr.heap.size < W1.heap.size := (Array.getElem?_eq_some_iff.1 AH).1
      have i0 : W1.cell? ⟨wr.heap.size, 0, none⟩ = some (.string X.key) := by simp [World.cell?, AH]
      have i1 : W1.cell? ⟨wr.heap.size, 1, none⟩ = some (.int .i64 X.item.k) := by simp [World.cell?, AH]
      have i2 : W1.cell? ⟨wr.heap.size, 2, none⟩ = some (.string X.item.t) := by simp [World.cell?, AH]
      have i3 : W1.cell? ⟨wr.heap.size, 3, none⟩ = some (.slice a1 X.item.l.length c1) := by simp [World.cell?, AH]
      have i4 : W1.cell? ⟨wr.heap.size, 4, none⟩ = some (.slice a2 X.item.p.length c2) := by simp [World.cell?, AH]
      have i5 : W1.cell? ⟨wr.heap.size, 5, none⟩ = some (.slice a3 X.item.s.length c3) := by simp [World.cell?, AH]
      have i6 : W1.cell? ⟨wr.heap.size, 6, none⟩ = some (.int .i64 X.til) := by simp [World.cell?, AH]
      go_wp2_with fail
      refine (HGX.out _ W1 (hbr.trans (CA.mono hsz)) ⟨a1, c1, a2, c2, a3, c3, rfl, hi2.below CA⟩).mono ?_
      rintro e w2 ⟨rfl, hb2⟩
      have AH2 := (hb2.block _ hz1).trans AH
      have C2 : Below wr.heap.size wr w2 := CA.trans (hb2.mono CA.size)
      have hx2 : wr.heap.size < w2.heap.size := (Array.getElem?_eq_some_iff.1 AH2).1
      clear i0 i1 i2 i3 i4 i5 i6
      clear hb2 CA AH HGX hz1 hW1 d0 d1 d2 d3 d4 d5 d6
      cases hgx : g X with
      | true =>
        have HL2 := hide (HNX.out l (by rw [if_pos hgx]))
        clear hgx HNX
        go_wp2_with fail
        go_roundw
        case rel => exact ⟨k + 1, l, by omega, by go_num, by omega, HL2.out, hown.below C2, hbr.trans (C2.mono hsz)⟩
        case measure => simp [intOf]; omega
      | false =>
        have HL2 : Hid (∀ q : Sls, (l ++ [(X, q)]).map Prod.fst = (s.take (k + 1)).filter (fun x => !g x)) := fun q => HNX.out _ (by rw [if_neg (by simp [hgx])]; simp)
        clear hgx HNX
        have e1 : w2.cell? ⟨wr.heap.size, 1, none⟩ = some (.int .i64 X.item.k) := by simp [World.cell?, AH2]
        have e2 : w2.cell? ⟨wr.heap.size, 2, none⟩ = some (.string X.item.t) := by simp [World.cell?, AH2]
        have e3 : w2.cell? ⟨wr.heap.size, 3, none⟩ = some (.slice a1 X.item.l.length c1) := by simp [World.cell?, AH2]
        have e4 : w2.cell? ⟨wr.heap.size, 4, none⟩ = some (.slice a2 X.item.p.length c2) := by simp [World.cell?, AH2]
        have e5 : w2.cell? ⟨wr.heap.size, 5, none⟩ = some (.slice a3 X.item.s.length c3) := by simp [World.cell?, AH2]
        go_wp2_with fail
        refine (copy_any _ X.item w2 (hi2.below C2) HFX.out.1 HFX.out.2.1 HFX.out.2.2).mono ?_
        rintro e w3 ⟨v3, rfl, ho3, hb3⟩
        obtain ⟨b1, f1, b2, f2, b3, f3, rfl, hr3⟩ := id ho3
        have AH3 := (hb3.block _ hx2).trans AH2
        have C3 : Below wr.heap.size wr w3 := C2.trans (hb3.mono C2.size)
        have hx3 : wr.heap.size < w3.heap.size := (Array.getElem?_eq_some_iff.1 AH3).1
        clear hr3 e1 e2 e3 e4 e5 AH2 
        have e1 : w3.cell? ⟨wr.heap.size, 1, none⟩ = some (.int .i64 X.item.k) := by simp [World.cell?, AH3]
        have z1 : w3.frozen? ⟨wr.heap.size, 1, none⟩ = false := by simp [World.frozen?, AH3]
        have e2 : w3.cell? ⟨wr.heap.size, 2, none⟩ = some (.string X.item.t) := by simp [World.cell?, AH3]
        have z2 : w3.frozen? ⟨wr.heap.size, 2, none⟩ = false := by simp [World.frozen?, AH3]
        have e3 : w3.cell? ⟨wr.heap.size, 3, none⟩ = some (.slice a1 X.item.l.length c1) := by simp [World.cell?, AH3]
        have z3 : w3.frozen? ⟨wr.heap.size, 3, none⟩ = false := by simp [World.frozen?, AH3]
        have e4 : w3.cell? ⟨wr.heap.size, 4, none⟩ = some (.slice a2 X.item.p.length c2) := by simp [World.cell?, AH3]
        have z4 : w3.frozen? ⟨wr.heap.size, 4, none⟩ = false := by simp [World.frozen?, AH3]
        have e5 : w3.cell? ⟨wr.heap.size, 5, none⟩ = some (.slice a3 X.item.s.length c3) := by simp [World.cell?, AH3]
        have z5 : w3.frozen? ⟨wr.heap.size, 5, none⟩ = false := by simp [World.frozen?, AH3]
        have AH4 : (((((w3.setCell ⟨wr.heap.size, 1, none⟩ (.int .i64 X.item.k)).setCell ⟨wr.heap.size, 2, none⟩ (.string X.item.t)).setCell ⟨wr.heap.size, 3, none⟩ (.slice b1 X.item.l.length f1)).setCell ⟨wr.heap.size, 4, none⟩ (.slice b2 X.item.p.length f2)).setCell ⟨wr.heap.size, 5, none⟩ (.slice b3 X.item.s.length f3)).heap[wr.heap.size]? = some (.cells #[.string X.key, .int .i64 X.item.k, .string X.item.t, .slice b1 X.item.l.length f1, .slice b2 X.item.p.length f2, .slice b3 X.item.s.length f3, .int .i64 X.til] 45 (0, 0)) := by
          rw [setCell_heapY (setCell_heapY (setCell_heapY (setCell_heapY (setCell_heapY AH3 1 _) 2 _) 3 _) 4 _) 5 _]; rfl
        have K4 : Kept (one wr.heap.size) w3 (((((w3.setCell ⟨wr.heap.size, 1, none⟩ (.int .i64 X.item.k)).setCell ⟨wr.heap.size, 2, none⟩ (.string X.item.t)).setCell ⟨wr.heap.size, 3, none⟩ (.slice b1 X.item.l.length f1)).setCell ⟨wr.heap.size, 4, none⟩ (.slice b2 X.item.p.length f2)).setCell ⟨wr.heap.size, 5, none⟩ (.slice b3 X.item.s.length f3)) := (((((Kept.refl (one wr.heap.size) w3).set1 1 _).set1 2 _).set1 3 _).set1 4 _).set1 5 _
        have C4 : Below wr.heap.size wr (((((w3.setCell ⟨wr.heap.size, 1, none⟩ (.int .i64 X.item.k)).setCell ⟨wr.heap.size, 2, none⟩ (.string X.item.t)).setCell ⟨wr.heap.size, 3, none⟩ (.slice b1 X.item.l.length f1)).setCell ⟨wr.heap.size, 4, none⟩ (.slice b2 X.item.p.length f2)).setCell ⟨wr.heap.size, 5, none⟩ (.slice b3 X.item.s.length f3)) := ((((C3.setCell (p := ⟨wr.heap.size, 1, none⟩) (Nat.le_refl _) _).setCell (p := ⟨wr.heap.size, 2, none⟩) (Nat.le_refl _) _).setCell (p := ⟨wr.heap.size, 3, none⟩) (Nat.le_refl _) _).setCell (p := ⟨wr.heap.size, 4, none⟩) (Nat.le_refl _) _).setCell (p := ⟨wr.heap.size, 5, none⟩) (Nat.le_refl _) _
        obtain ⟨W4, hW4⟩ : ∃ W4, (((((w3.setCell ⟨wr.heap.size, 1, none⟩ (.int .i64 X.item.k)).setCell ⟨wr.heap.size, 2, none⟩ (.string X.item.t)).setCell ⟨wr.heap.size, 3, none⟩ (.slice b1 X.item.l.length f1)).setCell ⟨wr.heap.size, 4, none⟩ (.slice b2 X.item.p.length f2)).setCell ⟨wr.heap.size, 5, none⟩ (.slice b3 X.item.s.length f3)) = W4 := ⟨_, rfl⟩
        rw [hW4] at AH4 K4 C4
        have hx4 : wr.heap.size < W4.heap.size := (Array.getElem?_eq_some_iff.1 AH4).1
        have g0 : W4.cell? ⟨wr.heap.size, 0, none⟩ = some (.string X.key) := by simp [World.cell?, AH4]
        have g1 : W4.cell? ⟨wr.heap.size, 1, none⟩ = some (.int .i64 X.item.k) := by simp [World.cell?, AH4]
        have g2 : W4.cell? ⟨wr.heap.size, 2, none⟩ = some (.string X.item.t) := by simp [World.cell?, AH4]
        have g3 : W4.cell? ⟨wr.heap.size, 3, none⟩ = some (.slice b1 X.item.l.length f1) := by simp [World.cell?, AH4]
        have g4 : W4.cell? ⟨wr.heap.size, 4, none⟩ = some (.slice b2 X.item.p.length f2) := by simp [World.cell?, AH4]
        have g5 : W4.cell? ⟨wr.heap.size, 5, none⟩ = some (.slice b3 X.item.s.length f3) := by simp [World.cell?, AH4]
        have g6 : W4.cell? ⟨wr.heap.size, 6, none⟩ = some (.int .i64 X.til) := by simp [World.cell?, AH4]
        have hox : OwnItem w.heap.size W4 (itemV X.item ((b1, f1), (b2, f2), (b3, f3))) X.item := (ho3.kept K4 (Nat.le_trans hsz C2.size) (fun j cs T hj _ _ ej => by simp only [one] at ej; omega))
        have hown4 : OwnSp w.heap.size W4 _ l := hown.below C4
        clear ho3 hown
        go_wp2_with (at_builtin; refine wpList_append_own _ rfl _ _ 23 rfl w.heap.size 45 iE (.agg #[.string ⟨#[]⟩, .int .i64 0, .string ⟨#[]⟩, .slice none 0 0, .slice none 0 0, .slice none 0 0, .int .i64 0]) 7 120 Tryz.underlying23 hi hz0 hzE hz2 rfl (by decide) _ _ _ rfl (hown4.row.alloc _) ⟨W4.heap.size, 0, none⟩ 1 1 [.string X.key, .int .i64 X.item.k, .string X.item.t, .slice b1 X.item.l.length f1, .slice b2 X.item.p.length f2, .slice b3 X.item.s.length f3, .int .i64 X.til] rfl rfl ?c1 ?c2 ?c3 ?c4 ?c5 ?_)
        case c1 =>
          intro j u hj
          match j, hj with
          | 0, hj => simp at hj; subst hj; simp [Addr.add]
          | 1, hj => simp at hj; subst hj; simp [Addr.add]
          | 2, hj => simp at hj; subst hj; simp [Addr.add]
          | 3, hj => simp at hj; subst hj; simp [Addr.add]
          | 4, hj => simp at hj; subst hj; simp [Addr.add]
          | 5, hj => simp at hj; subst hj; simp [Addr.add]
          | 6, hj => simp at hj; subst hj; simp [Addr.add]
          | _ + 7, hj => simp at hj
        case c2 => intro u hu; simp at hu; rcases hu with rfl | rfl | rfl | rfl | rfl | rfl | rfl <;> rfl
        case c3 => unfold maxLen; omega
        case c4 => omega
        case c5 => simp; omega
        intro v5 w5 hown5 hgrow _
        have hrA := hown4.row.alloc (.cells #[.string X.key, .int .i64 X.item.k, .string X.item.t, .slice b1 X.item.l.length f1, .slice b2 X.item.p.length f2, .slice b3 X.item.s.length f3, .int .i64 X.til] 45)
        have CX : Below w.heap.size w w5 := by
          have h1 := (hbr.trans (C4.mono hsz)).alloc (Nat.le_trans hsz C4.size) (.cells #[.string X.key, .int .i64 X.item.k, .string X.item.t, .slice b1 X.item.l.length f1, .slice b2 X.item.p.length f2, .slice b3 X.item.s.length f3, .int .i64 X.til] 45)
          exact h1.grown hgrow h1.size (fun j hj => (hrA.lt j hj).1)
        have hown6 : OwnSp w.heap.size w5 v5 (l ++ [(X, ((b1, f1), (b2, f2), (b3, f3)))]) := by
          refine ⟨by simpa [rowE_snoc, cellsE] using hown5, fun y hy => ?_⟩
          have hA : OwnItem w.heap.size (W4.alloc (.cells #[.string X.key, .int .i64 X.item.k, .string X.item.t, .slice b1 X.item.l.length f1, .slice b2 X.item.p.length f2, .slice b3 X.item.s.length f3, .int .i64 X.til] 45)) (itemV y.1.item y.2) y.1.item := by
            have h4 : OwnItem w.heap.size W4 (itemV y.1.item y.2) y.1.item := by
              rcases List.mem_append.1 hy with hy | hy
              · exact hown4.its y hy
              · rw [List.mem_singleton.1 hy]; exact hox
            exact h4.below ((Below.refl _ _).alloc (Nat.le_refl _) _)
          refine hA.kept ((Kept.refl _ _).grown hgrow (S := fun j => some j = u5.ownBlock) (fun j hj => .inl hj.symm)) (Nat.le_refl _) (fun j cs T _ h1 h2 h3 => ?_)
          rcases hrA.2 with ⟨hv, _⟩ | ⟨g', cap', cur', hv, _, hg', _⟩
          · rw [hv] at h3; simp [Value.ownBlock] at h3
          · rw [hv] at h3
            simp [Value.ownBlock] at h3
            subst h3
            rw [hg'] at h1
            simp at h1
            exact h2 h1.2.symm
        clear hown5 hgrow hown4 hox hrA
        go_wp2_with fail
        go_roundw
        case rel => exact ⟨k + 1, _, by omega, by go_num, by simp; omega, HL2.out _, hown6, CX⟩
        case measure => simp [intOf]; omega
    · have hge : ¬ ((k : Nat) : Int) < ((s.length : Nat) : Int) := by omega
      obtain rfl : k = s.length := by omega
      rw [List.take_length] at HL
      go_wp2_with fail
      go_ret
      exact ⟨_, rfl, l, HL.out, hown, hbr⟩
set_option maxRecDepth 100000 in
set_option maxHeartbeats 4000000 in
theorem without_put (b : Nat) (g : Ent → Bool) (a : Option Addr) (c : Nat) (s : List Ent) (w : World) (hs : SpaceAt w a s) (hn : s.length ≤ 1000000) (hf : ∀ x ∈ s, Fits x.item)
    (hg : ∀ x ∈ s, ∀ v W, Below w.heap.size w W → EntIs W v x → Calls Tryz.prog 56 #[v, .pointer (some ⟨b, 0, none⟩)] W fun e w' => e = .returned (.bool (g x)) ∧ Below W.heap.size W w') :
    Calls Tryz.prog 55 #[.slice a s.length c, .func (.func 56) #[] #[.pointer (some ⟨b, 0, none⟩)]] w fun e w' => ∃ V l, e = .returned V ∧ l.map Prod.fst = s.filter (fun x => !g x) ∧ OwnSp w.heap.size w' V l ∧ Below w.heap.size w w' := by
  obtain ⟨iE, hi, hz0, hzE, hz2⟩ := info_parts infoEnt
  have HS := hide hs
  have HG := hide hg
  have HFI := hide hf
  clear hs hg hf
  go_enter Tryz.func55, Tryz.ntmps55
  go_wp2_with fail
  go_loopw [5, 10] (fun V i wr => ∃ (k : Nat) (l : List (Ent × Sls)), k ≤ s.length ∧ i = .int .i64 k ∧ l.length ≤ k ∧ Hid (l.map Prod.fst = (s.take k).filter (fun x => !g x)) ∧ OwnSp w.heap.size wr V l ∧ Below w.heap.size w wr) (fun _ i _ => s.length - (intOf i).toNat)
  case atStart => exact ⟨0, [], Nat.zero_le _, rfl, Nat.le_refl _, rfl, ⟨World.ownsRow_nil _ _ _ _, by simp⟩, Below.refl _ _⟩
  case round =>
    obtain ⟨k, l, hk, rfl, hlk, HL, hown, hbr⟩ := hrel
    have hsz := hbr.size
    by_cases hlt : k < s.length
    · have hlt' : ((k : Nat) : Int) < ((s.length : Nat) : Int) := by omega
      obtain ⟨ga, o, rfl, hcs⟩ : ∃ ga o, a = some ⟨ga, o, none⟩ ∧ ∀ i (h : i < s.length), EntAt w ga (o + i * 7) s[i] := by
        rcases HS.out with h | h
        · rw [h] at hlt; simp at hlt
        · exact h
      obtain ⟨a1, c1, a2, c2, a3, c3, ⟨d0, d1, d2, d3, d4, d5, d6⟩, hi2⟩ := (hcs k hlt).below hbr
      have HFX := hide (HFI.out s[k] (List.getElem_mem hlt))
      have HNX : Hid (∀ l' : List (Ent × Sls), l'.map Prod.fst = (if g s[k] = true then l.map Prod.fst else l.map Prod.fst ++ [s[k]]) → l'.map Prod.fst = (s.take (k + 1)).filter (fun x => !g x)) := fun l' h => by
        rw [h, List.take_succ_eq_append_getElem hlt, List.filter_append, ← HL.out]
        cases hgx : g s[k] <;> simp [hgx]
      have HGX := hide (HG.out s[k] (List.getElem_mem hlt))
      clear hcs HL
      generalize s[k] = X at *
      have CA := (Below.refl wr.heap.size wr).alloc (Nat.le_refl _) (.cells #[.string X.key, .int .i64 X.item.k, .string X.item.t, .slice a1 X.item.l.length c1, .slice a2 X.item.p.length c2, .slice a3 X.item.s.length c3, .int .i64 X.til] 45)
      have AH := allocY_new wr (.cells #[.string X.key, .int .i64 X.item.k, .string X.item.t, .slice a1 X.item.l.length c1, .slice a2 X.item.p.length c2, .slice a3 X.item.s.length c3, .int .i64 X.til] 45)
      obtain ⟨W1, hW1⟩ : ∃ W1, wr.alloc (.cells #[.string X.key, .int .i64 X.item.k, .string X.item.t, .slice a1 X.item.l.length c1, .slice a2 X.item.p.length c2, .slice a3 X.item.s.length c3, .int .i64 X.til] 45) = W1 := ⟨_, rfl⟩
      rw [hW1] at CA AH
      have hz1 : wr.heap.size < W1.heap.size := (Array.getElem?_eq_some_iff.1 AH).1
      have i0 : W1.cell? ⟨wr.heap.size, 0, none⟩ = some (.string X.key) := by simp [World.cell?, AH]
      have i1 : W1.cell? ⟨wr.heap.size, 1, none⟩ = some (.int .i64 X.item.k) := by simp [World.cell?, AH]
      have i2 : W1.cell? ⟨wr.heap.size, 2, none⟩ = some (.string X.item.t) := by simp [World.cell?, AH]
      have i3 : W1.cell? ⟨wr.heap.size, 3, none⟩ = some (.slice a1 X.item.l.length c1) := by simp [World.cell?, AH]
      have i4 : W1.cell? ⟨wr.heap.size, 4, none⟩ = some (.slice a2 X.item.p.length c2) := by simp [World.cell?, AH]
      have i5 : W1.cell? ⟨wr.heap.size, 5, none⟩ = some (.slice a3 X.item.s.length c3) := by simp [World.cell?, AH]
      have i6 : W1.cell? ⟨wr.heap.size, 6, none⟩ = some (.int .i64 X.til) := by simp [World.cell?, AH]
      go_wp2_with fail
      refine (HGX.out _ W1 (hbr.trans (CA.mono hsz)) ⟨a1, c1, a2, c2, a3, c3, rfl, hi2.below CA⟩).mono ?_
      rintro e w2 ⟨rfl, hb2⟩
      have AH2 := (hb2.block _ hz1).trans AH
      have C2 : Below wr.heap.size wr w2 := CA.trans (hb2.mono CA.size)
      have hx2 : wr.heap.size < w2.heap.size := (Array.getElem?_eq_some_iff.1 AH2).1
      clear i0 i1 i2 i3 i4 i5 i6
      clear hb2 CA AH HGX hz1 hW1 d0 d1 d2 d3 d4 d5 d6
      cases hgx : g X with
      | true =>
        have HL2 := hide (HNX.out l (by rw [if_pos hgx]))
        clear hgx HNX
        go_wp2_with fail
        go_roundw
        case rel => exact ⟨k + 1, l, by omega, by go_num, by omega, HL2.out, hown.below C2, hbr.trans (C2.mono hsz)⟩
        case measure => simp [intOf]; omega
      | false =>
        have HL2 : Hid (∀ q : Sls, (l ++ [(X, q)]).map Prod.fst = (s.take (k + 1)).filter (fun x => !g x)) := fun q => HNX.out _ (by rw [if_neg (by simp [hgx])]; simp)
        clear hgx HNX
        have e1 : w2.cell? ⟨wr.heap.size, 1, none⟩ = some (.int .i64 X.item.k) := by simp [World.cell?, AH2]
        have e2 : w2.cell? ⟨wr.heap.size, 2, none⟩ = some (.string X.item.t) := by simp [World.cell?, AH2]
        have e3 : w2.cell? ⟨wr.heap.size, 3, none⟩ = some (.slice a1 X.item.l.length c1) := by simp [World.cell?, AH2]
        have e4 : w2.cell? ⟨wr.heap.size, 4, none⟩ = some (.slice a2 X.item.p.length c2) := by simp [World.cell?, AH2]
        have e5 : w2.cell? ⟨wr.heap.size, 5, none⟩ = some (.slice a3 X.item.s.length c3) := by simp [World.cell?, AH2]
        go_wp2_with fail
        refine (copy_any _ X.item w2 (hi2.below C2) HFX.out.1 HFX.out.2.1 HFX.out.2.2).mono ?_
        rintro e w3 ⟨v3, rfl, ho3, hb3⟩
        obtain ⟨b1, f1, b2, f2, b3, f3, rfl, hr3⟩ := id ho3
        have AH3 := (hb3.block _ hx2).trans AH2
        have C3 : Below wr.heap.size wr w3 := C2.trans (hb3.mono C2.size)
        have hx3 : wr.heap.size < w3.heap.size := (Array.getElem?_eq_some_iff.1 AH3).1
        clear hr3 e1 e2 e3 e4 e5 AH2 
        have e1 : w3.cell? ⟨wr.heap.size, 1, none⟩ = some (.int .i64 X.item.k) := by simp [World.cell?, AH3]
        have z1 : w3.frozen? ⟨wr.heap.size, 1, none⟩ = false := by simp [World.frozen?, AH3]
        have e2 : w3.cell? ⟨wr.heap.size, 2, none⟩ = some (.string X.item.t) := by simp [World.cell?, AH3]
        have z2 : w3.frozen? ⟨wr.heap.size, 2, none⟩ = false := by simp [World.frozen?, AH3]
        have e3 : w3.cell? ⟨wr.heap.size, 3, none⟩ = some (.slice a1 X.item.l.length c1) := by simp [World.cell?, AH3]
        have z3 : w3.frozen? ⟨wr.heap.size, 3, none⟩ = false := by simp [World.frozen?, AH3]
        have e4 : w3.cell? ⟨wr.heap.size, 4, none⟩ = some (.slice a2 X.item.p.length c2) := by simp [World.cell?, AH3]
        have z4 : w3.frozen? ⟨wr.heap.size, 4, none⟩ = false := by simp [World.frozen?, AH3]
        have e5 : w3.cell? ⟨wr.heap.size, 5, none⟩ = some (.slice a3 X.item.s.length c3) := by simp [World.cell?, AH3]
        have z5 : w3.frozen? ⟨wr.heap.size, 5, none⟩ = false := by simp [World.frozen?, AH3]
        have AH4 : (((((w3.setCell ⟨wr.heap.size, 1, none⟩ (.int .i64 X.item.k)).setCell ⟨wr.heap.size, 2, none⟩ (.string X.item.t)).setCell ⟨wr.heap.size, 3, none⟩ (.slice b1 X.item.l.length f1)).setCell ⟨wr.heap.size, 4, none⟩ (.slice b2 X.item.p.length f2)).setCell ⟨wr.heap.size, 5, none⟩ (.slice b3 X.item.s.length f3)).heap[wr.heap.size]? = some (.cells #[.string X.key, .int .i64 X.item.k, .string X.item.t, .slice b1 X.item.l.length f1, .slice b2 X.item.p.length f2, .slice b3 X.item.s.length f3, .int .i64 X.til] 45 (0, 0)) := by
          rw [setCell_heapY (setCell_heapY (setCell_heapY (setCell_heapY (setCell_heapY AH3 1 _) 2 _) 3 _) 4 _) 5 _]; rfl
        have K4 : Kept (one wr.heap.size) w3 (((((w3.setCell ⟨wr.heap.size, 1, none⟩ (.int .i64 X.item.k)).setCell ⟨wr.heap.size, 2, none⟩ (.string X.item.t)).setCell ⟨wr.heap.size, 3, none⟩ (.slice b1 X.item.l.length f1)).setCell ⟨wr.heap.size, 4, none⟩ (.slice b2 X.item.p.length f2)).setCell ⟨wr.heap.size, 5, none⟩ (.slice b3 X.item.s.length f3)) := (((((Kept.refl (one wr.heap.size) w3).set1 1 _).set1 2 _).set1 3 _).set1 4 _).set1 5 _
        have C4 : Below wr.heap.size wr (((((w3.setCell ⟨wr.heap.size, 1, none⟩ (.int .i64 X.item.k)).setCell ⟨wr.heap.size, 2, none⟩ (.string X.item.t)).setCell ⟨wr.heap.size, 3, none⟩ (.slice b1 X.item.l.length f1)).setCell ⟨wr.heap.size, 4, none⟩ (.slice b2 X.item.p.length f2)).setCell ⟨wr.heap.size, 5, none⟩ (.slice b3 X.item.s.length f3)) := ((((C3.setCell (p := ⟨wr.heap.size, 1, none⟩) (Nat.le_refl _) _).setCell (p := ⟨wr.heap.size, 2, none⟩) (Nat.le_refl _) _).setCell (p := ⟨wr.heap.size, 3, none⟩) (Nat.le_refl _) _).setCell (p := ⟨wr.heap.size, 4, none⟩) (Nat.le_refl _) _).setCell (p := ⟨wr.heap.size, 5, none⟩) (Nat.le_refl _) _
        obtain ⟨W4, hW4⟩ : ∃ W4, (((((w3.setCell ⟨wr.heap.size, 1, none⟩ (.int .i64 X.item.k)).setCell ⟨wr.heap.size, 2, none⟩ (.string X.item.t)).setCell ⟨wr.heap.size, 3, none⟩ (.slice b1 X.item.l.length f1)).setCell ⟨wr.heap.size, 4, none⟩ (.slice b2 X.item.p.length f2)).setCell ⟨wr.heap.size, 5, none⟩ (.slice b3 X.item.s.length f3)) = W4 := ⟨_, rfl⟩
        rw [hW4] at AH4 K4 C4
        have hx4 : wr.heap.size < W4.heap.size := (Array.getElem?_eq_some_iff.1 AH4).1
        have g0 : W4.cell? ⟨wr.heap.size, 0, none⟩ = some (.string X.key) := by simp [World.cell?, AH4]
        have g1 : W4.cell? ⟨wr.heap.size, 1, none⟩ = some (.int .i64 X.item.k) := by simp [World.cell?, AH4]
        have g2 : W4.cell? ⟨wr.heap.size, 2, none⟩ = some (.string X.item.t) := by simp [World.cell?, AH4]
        have g3 : W4.cell? ⟨wr.heap.size, 3, none⟩ = some (.slice b1 X.item.l.length f1) := by simp [World.cell?, AH4]
        have g4 : W4.cell? ⟨wr.heap.size, 4, none⟩ = some (.slice b2 X.item.p.length f2) := by simp [World.cell?, AH4]
        have g5 : W4.cell? ⟨wr.heap.size, 5, none⟩ = some (.slice b3 X.item.s.length f3) := by simp [World.cell?, AH4]
        have g6 : W4.cell? ⟨wr.heap.size, 6, none⟩ = some (.int .i64 X.til) := by simp [World.cell?, AH4]
        have hox : OwnItem w.heap.size W4 (itemV X.item ((b1, f1), (b2, f2), (b3, f3))) X.item := (ho3.kept K4 (Nat.le_trans hsz C2.size) (fun j cs T hj _ _ ej => by simp only [one] at ej; omega))
        have hown4 : OwnSp w.heap.size W4 _ l := hown.below C4
        clear ho3 hown
        go_wp2_with (at_builtin; refine wpList_append_own _ rfl _ _ 23 rfl w.heap.size 45 iE (.agg #[.string ⟨#[]⟩, .int .i64 0, .string ⟨#[]⟩, .slice none 0 0, .slice none 0 0, .slice none 0 0, .int .i64 0]) 7 120 Tryz.underlying23 hi hz0 hzE hz2 rfl (by decide) _ _ _ rfl (hown4.row.alloc _) ⟨W4.heap.size, 0, none⟩ 1 1 [.string X.key, .int .i64 X.item.k, .string X.item.t, .slice b1 X.item.l.length f1, .slice b2 X.item.p.length f2, .slice b3 X.item.s.length f3, .int .i64 X.til] rfl rfl ?c1 ?c2 ?c3 ?c4 ?c5 ?_)
        case c1 =>
          intro j u hj
          match j, hj with
          | 0, hj => simp at hj; subst hj; simp [Addr.add]
          | 1, hj => simp at hj; subst hj; simp [Addr.add]
          | 2, hj => simp at hj; subst hj; simp [Addr.add]
          | 3, hj => simp at hj; subst hj; simp [Addr.add]
          | 4, hj => simp at hj; subst hj; simp [Addr.add]
          | 5, hj => simp at hj; subst hj; simp [Addr.add]
          | 6, hj => simp at hj; subst hj; simp [Addr.add]
          | _ + 7, hj => simp at hj
        case c2 => intro u hu; simp at hu; rcases hu with rfl | rfl | rfl | rfl | rfl | rfl | rfl <;> rfl
        case c3 => unfold maxLen; omega
        case c4 => omega
        case c5 => simp; omega
        intro v5 w5 hown5 hgrow _
        have hrA := hown4.row.alloc (.cells #[.string X.key, .int .i64 X.item.k, .string X.item.t, .slice b1 X.item.l.length f1, .slice b2 X.item.p.length f2, .slice b3 X.item.s.length f3, .int .i64 X.til] 45)
        have CX : Below w.heap.size w w5 := by
          have h1 := (hbr.trans (C4.mono hsz)).alloc (Nat.le_trans hsz C4.size) (.cells #[.string X.key, .int .i64 X.item.k, .string X.item.t, .slice b1 X.item.l.length f1, .slice b2 X.item.p.length f2, .slice b3 X.item.s.length f3, .int .i64 X.til] 45)
          exact h1.grown hgrow h1.size (fun j hj => (hrA.lt j hj).1)
        have hown6 : OwnSp w.heap.size w5 v5 (l ++ [(X, ((b1, f1), (b2, f2), (b3, f3)))]) := by
          refine ⟨by simpa [rowE_snoc, cellsE] using hown5, fun y hy => ?_⟩
          have hA : OwnItem w.heap.size (W4.alloc (.cells #[.string X.key, .int .i64 X.item.k, .string X.item.t, .slice b1 X.item.l.length f1, .slice b2 X.item.p.length f2, .slice b3 X.item.s.length f3, .int .i64 X.til] 45)) (itemV y.1.item y.2) y.1.item := by
            have h4 : OwnItem w.heap.size W4 (itemV y.1.item y.2) y.1.item := by
              rcases List.mem_append.1 hy with hy | hy
              · exact hown4.its y hy
              · rw [List.mem_singleton.1 hy]; exact hox
            exact h4.below ((Below.refl _ _).alloc (Nat.le_refl _) _)
          refine hA.kept ((Kept.refl _ _).grown hgrow (S := fun j => some j = u5.ownBlock) (fun j hj => .inl hj.symm)) (Nat.le_refl _) (fun j cs T _ h1 h2 h3 => ?_)
          rcases hrA.2 with ⟨hv, _⟩ | ⟨g', cap', cur', hv, _, hg', _⟩
          · rw [hv] at h3; simp [Value.ownBlock] at h3
          · rw [hv] at h3
            simp [Value.ownBlock] at h3
            subst h3
            rw [hg'] at h1
            simp at h1
            exact h2 h1.2.symm
        clear hown5 hgrow hown4 hox hrA
        go_wp2_with fail
        go_roundw
        case rel => exact ⟨k + 1, _, by omega, by go_num, by simp; omega, HL2.out _, hown6, CX⟩
        case measure => simp [intOf]; omega
    · have hge : ¬ ((k : Nat) : Int) < ((s.length : Nat) : Int) := by omega
      obtain rfl : k = s.length := by omega
      rw [List.take_length] at HL
      go_wp2_with fail
      go_ret
      exact ⟨_, rfl, l, HL.out, hown, hbr⟩
end Go.Proofs.YtcidoodaiimhfaaGreat

/- WALKS of spaces: Check; a space at a time, with a key. -/
namespace Go.Proofs.YtcidoodaiimhfaaGreat
open Go.RowKit

theorem bytesLess_less (a b : ByteArray) : Op.bytesLess a.toList b.toList = decide (lessT a b) := by
  rw [bytesLess_eq, ByteArray.toList_eq, ByteArray.toList_eq, Bool.eq_iff_iff, decide_eq_true_iff, decide_eq_true_iff]; rfl
set_option maxRecDepth 100000 in
set_option maxHeartbeats 8000000 in
theorem spCheck_any (a : Option Addr) (c : Nat) (s : List Ent) (w : World) (hs : SpaceAt w a s) (hn : s.length ≤ 281474976710656) :
    Calls Tryz.prog 20 #[.slice a s.length c] w fun e w' => e = .returned (.int .i64 (chkSp s)) ∧ Below w.heap.size w w' := by
  have HS := hide hs
  clear hs
  by_cases h16 : 16 < s.length
  · have h16' : (16 : Int) < ((s.length : Nat) : Int) := by omega
    have hE : chkSp s = 2 := by rw [chkSp, if_pos h16]
    rw [hE]
    clear hE HS
    go_enter Tryz.func20, Tryz.ntmps20
    go_wp2_with fail
    go_ret
    exact ⟨rfl, Below.refl _ _⟩
  · have h16' : ¬ (16 : Int) < ((s.length : Nat) : Int) := by omega
    obtain ⟨R, hR⟩ : ∃ R, chkSp s = R := ⟨_, rfl⟩
    have HR : Hid (chkFrom none s = R) := by rw [Hid, ← hR, chkSp, if_neg h16]
    rw [hR]
    clear hR
    go_enter Tryz.func20, Tryz.ntmps20
    go_wp2_with fail
    go_loopw [11] (fun iv wr => ∃ q : Nat, q ≤ s.length ∧ iv = .int .i64 q ∧ Hid (chkFrom (aheadE s q) (s.drop q) = R) ∧ Below w.heap.size w wr) (fun iv _ => s.length - (intOf iv).toNat)
    case atStart => exact ⟨0, Nat.zero_le _, rfl, HR.out, Below.refl _ _⟩
    case round =>
      obtain ⟨q, hq, rfl, HQ, hbr⟩ := hrel
      have hsz := hbr.size
      by_cases hlt : q < s.length
      · have hlt' : ((q : Nat) : Int) < ((s.length : Nat) : Int) := by omega
        obtain ⟨g, o, rfl, hcs⟩ : ∃ g o, a = some ⟨g, o, none⟩ ∧ ∀ i (h : i < s.length), EntAt w g (o + i * 7) s[i] := by
          rcases HS.out with h | h
          · rw [h] at hlt; simp at hlt
          · exact h
        obtain ⟨a1, c1, a2, c2, a3, c3, ⟨d0, d1, d2, d3, d4, d5, d6⟩, hi⟩ := (hcs q hlt).below hbr
        have HST : Hid (R = if chkE s[q] ≠ 0 then chkE s[q] else if behindE (aheadE s q) s[q] = true then chkFrom (aheadE s (q + 1)) (s.drop (q + 1)) else 4) := by rw [Hid, ← HQ.out, chkFrom_at s q hlt]
        have HAH : Hid (∀ m, m + 1 = q → ∃ hm : m < s.length, wr.cell? ⟨g, o + m * 7, none⟩ = some (.string s[m].key) ∧ aheadE s q = some s[m].key) := fun m hm => ⟨by omega, by
          obtain ⟨_, _, _, _, _, _, ⟨k0, -⟩, -⟩ := (hcs m (by omega)).below hbr
          exact k0, by
          subst hm
          rw [aheadE, if_neg (by omega)]
          simp [show m < s.length by omega]⟩
        have HCK : Hid (∀ W, Below wr.heap.size wr W → Calls Tryz.prog 73 #[.agg #[.string s[q].key, .int .i64 s[q].item.k, .string s[q].item.t, .slice a1 s[q].item.l.length c1, .slice a2 s[q].item.p.length c2, .slice a3 s[q].item.s.length c3, .int .i64 s[q].til]] W fun e w' => e = .returned (.int .i64 (chkE s[q])) ∧ Below W.heap.size W w') := fun W hW => checkEntry_any _ s[q] W ⟨a1, c1, a2, c2, a3, c3, rfl, hi.below hW⟩
        clear hcs HS HR HQ hi
        generalize s[q] = X at *
        have CA := hbr.alloc hsz (.cells #[.string X.key, .int .i64 X.item.k, .string X.item.t, .slice a1 X.item.l.length c1, .slice a2 X.item.p.length c2, .slice a3 X.item.s.length c3, .int .i64 X.til] 45)
        have C0 : Below wr.heap.size wr (wr.alloc (.cells #[.string X.key, .int .i64 X.item.k, .string X.item.t, .slice a1 X.item.l.length c1, .slice a2 X.item.p.length c2, .slice a3 X.item.s.length c3, .int .i64 X.til] 45)) := (Below.refl _ wr).alloc (Nat.le_refl _) _
        by_cases hck : chkE X = 0
        · rw [hck] at HCK
          rw [if_neg (by simp [hck])] at HST
          clear hck
          go_wp2_with fail
          refine (HCK.out _ C0).mono ?_
          rintro e w5 ⟨rfl, hb5⟩
          have C5 := CA.trans (hb5.mono CA.size)
          have D5 := C0.trans (hb5.mono C0.size)
          have x0 : w5.cell? ⟨wr.heap.size, 0, none⟩ = some (.string X.key) := (hb5.cell (p := ⟨wr.heap.size, 0, none⟩) (by simp)).trans (by simp [go_sem])
          clear hb5 CA C0 HCK
          by_cases hq0 : q = 0
          · subst hq0
            have HW2 : Hid (chkFrom (aheadE s (0 + 1)) (s.drop (0 + 1)) = R) := by
              have := HST.out
              rw [show aheadE s 0 = none from rfl, if_pos (show behindE none X = true from rfl)] at this
              exact this.symm
            clear HST HAH
            go_wp2_with fail
            go_quiet (fail)
            go_wp2_with fail
            go_roundw
            case rel => exact ⟨0 + 1, by omega, by go_num, HW2.out, below_drewN C5 _⟩
            case measure => simp [intOf]; omega
          · obtain ⟨m, rfl⟩ : ∃ m, q = m + 1 := ⟨q - 1, by omega⟩
            obtain ⟨hm, e0, e1⟩ := HAH.out m rfl
            have f0 := (D5.cell (p := ⟨g, o + m * 7, none⟩) (World.block_lt_of_cell? _ _ e0)).trans e0
            have hm1 : ((m : Nat) : Int) < ((s.length : Nat) : Int) := by omega
            have hm0 : (0 : Int) < ((m : Nat) : Int) + 1 := by omega
            rw [e1] at HST
            clear HAH e0 e1
            generalize s[m].key = Z at *
            have hbl := bytesLess_less Z X.key
            by_cases hl : lessT Z X.key
            · have HW2 : Hid (chkFrom (aheadE s (m + 1 + 1)) (s.drop (m + 1 + 1)) = R) := by
                have := HST.out
                rw [if_pos (by simp [behindE, hl])] at this
                exact this.symm
              rw [decide_eq_true hl] at hbl
              clear HST hl
              generalize X.key = XK at *
              go_wp2_with fail
              go_quiet (fail)
              go_wp2_with fail
              go_roundw
              case rel => exact ⟨m + 1 + 1, by omega, by go_num, HW2.out, below_drewN C5 _⟩
              case measure => simp [intOf]; omega
            · have HW2 : Hid (R = 4) := by
                have := HST.out
                rw [if_neg (by simp [behindE, hl])] at this
                exact this
              rw [decide_eq_false hl] at hbl
              clear HST hl
              generalize X.key = XK at *
              go_wp2_with fail
              go_quiet (fail)
              go_wp2_with fail
              go_ret
              exact ⟨by simp [HW2.out], below_drewN C5 _⟩
        · have hck' : (chkE X == 0) = false := by rw [beq_eq_false_iff_ne]; exact hck
          have HW2 : Hid (R = chkE X) := by rw [Hid, HST.out, if_pos hck]
          clear HST hck HAH
          generalize chkE X = E at *
          go_wp2_with fail
          refine (HCK.out _ C0).mono ?_
          rintro e w5 ⟨rfl, hb5⟩
          have C5 := CA.trans (hb5.mono CA.size)
          clear hb5 CA C0 HCK
          go_wp2_with fail
          go_ret
          exact ⟨by simp [HW2.out], C5⟩
      · have hge : ¬ ((q : Nat) : Int) < ((s.length : Nat) : Int) := by omega
        obtain rfl : q = s.length := by omega
        have HW2 : Hid (R = 0) := by
          have := HQ.out
          rw [List.drop_length] at this
          rw [Hid, ← this]
          rfl
        clear HQ HS HR
        go_wp2_with fail
        go_ret
        exact ⟨by simp [HW2.out], hbr⟩
set_option maxRecDepth 100000 in
theorem checkAt_any (a : Option Addr) (c : Nat) (s : List Ent) (now : Int) (w : World) (hs : SpaceAt w a s) (hn : s.length ≤ 281474976710656) :
    Calls Tryz.prog 59 #[.slice a s.length c, .int .i64 now] w fun e w' => e = .returned (.int .i64 (chkAt s now)) ∧ Below w.heap.size w w' := by
  have HC := hide (spCheck_any a c s w hs hn)
  have HT : Hid (∀ W, Calls Tryz.prog 135 #[.int .i64 now] W fun e w' => e = .returned (.bool (timeT now)) ∧ w' = W) := fun W => timeY_any _ W
  unfold chkAt
  clear hs
  generalize timeT now = TT at *
  by_cases h0 : chkSp s = 0
  · rw [if_neg (by simp [h0])]
    rw [h0] at HC
    clear h0
    cases TT with
    | true =>
      rw [if_pos rfl]
      go_enter Tryz.func59, Tryz.ntmps59
      go_wp2_with fail
      refine HC.out.mono ?_
      rintro e w1 ⟨rfl, hb1⟩
      go_wp2_with fail
      refine (HT.out _).mono ?_
      rintro e w2 ⟨rfl, rfl⟩
      go_wp2_with fail
      go_ret
      exact ⟨rfl, hb1⟩
    | false =>
      rw [if_neg (by decide)]
      go_enter Tryz.func59, Tryz.ntmps59
      go_wp2_with fail
      refine HC.out.mono ?_
      rintro e w1 ⟨rfl, hb1⟩
      go_wp2_with fail
      refine (HT.out _).mono ?_
      rintro e w2 ⟨rfl, rfl⟩
      go_wp2_with fail
      go_ret
      exact ⟨rfl, hb1⟩
  · rw [if_pos h0]
    have h0' : (chkSp s == 0) = false := by rw [beq_eq_false_iff_ne]; exact h0
    clear h0
    generalize chkSp s = E at *
    go_enter Tryz.func59, Tryz.ntmps59
    go_wp2_with fail
    refine HC.out.mono ?_
    rintro e w1 ⟨rfl, hb1⟩
    go_wp2_with fail
    go_ret
    exact ⟨rfl, hb1⟩
set_option maxRecDepth 100000 in
theorem checkKey_any (a : Option Addr) (c : Nat) (s : List Ent) (now : Int) (key : ByteArray) (w : World) (hs : SpaceAt w a s) (hn : s.length ≤ 281474976710656) :
    Calls Tryz.prog 51 #[.slice a s.length c, .int .i64 now, .string key] w fun e w' => e = .returned (.int .i64 (chkKey s now key)) ∧ Below w.heap.size w w' := by
  have HC := hide (checkAt_any a c s now w hs hn)
  have HT : Hid (∀ W, Calls Tryz.prog 87 #[.string key] W fun e w' => e = .returned (.bool (longT key)) ∧ w' = W) := fun W => longY_below _ W
  unfold chkKey
  clear hs
  generalize longT key = TT at *
  by_cases h0 : chkAt s now = 0
  · rw [if_neg (by simp [h0])]
    rw [h0] at HC
    clear h0
    cases TT with
    | true =>
      rw [if_pos rfl]
      go_enter Tryz.func51, Tryz.ntmps51
      go_wp2_with fail
      refine HC.out.mono ?_
      rintro e w1 ⟨rfl, hb1⟩
      go_wp2_with fail
      refine (HT.out _).mono ?_
      rintro e w2 ⟨rfl, rfl⟩
      go_wp2_with fail
      go_ret
      exact ⟨rfl, hb1⟩
    | false =>
      rw [if_neg (by decide)]
      go_enter Tryz.func51, Tryz.ntmps51
      go_wp2_with fail
      refine HC.out.mono ?_
      rintro e w1 ⟨rfl, hb1⟩
      go_wp2_with fail
      refine (HT.out _).mono ?_
      rintro e w2 ⟨rfl, rfl⟩
      go_wp2_with fail
      go_ret
      exact ⟨rfl, hb1⟩
  · rw [if_pos h0]
    have h0' : (chkAt s now == 0) = false := by rw [beq_eq_false_iff_ne]; exact h0
    clear h0
    generalize chkAt s now = E at *
    go_enter Tryz.func51, Tryz.ntmps51
    go_wp2_with fail
    refine HC.out.mono ?_
    rintro e w1 ⟨rfl, hb1⟩
    go_wp2_with fail
    go_ret
    exact ⟨rfl, hb1⟩
end Go.Proofs.YtcidoodaiimhfaaGreat

/- WALKS of spaces: which ones go; swept; Sweep. -/
namespace Go.Proofs.YtcidoodaiimhfaaGreat
open Go.RowKit

theorem OwnSp.low {B B2 : Nat} {w : World} {V : Value} {l : List (Ent × Sls)} (h : OwnSp B w V l) (hb : B2 ≤ B) : OwnSp B2 w V l :=
  ⟨row_lowY h.row hb, fun y hy => (h.its y hy).low hb⟩
set_option maxRecDepth 100000 in
theorem goesGone_any (b : Nat) (now : Int) (v : Value) (x : Ent) (W : World) (hc : W.cell? ⟨b, 0, none⟩ = some (.int .i64 now)) (h : EntIs W v x) :
    Calls Tryz.prog 138 #[v, .pointer (some ⟨b, 0, none⟩)] W fun e w' => e = .returned (.bool (goneE x now)) ∧ Below W.heap.size W w' := by
  obtain ⟨a1, c1, a2, c2, a3, c3, rfl, hi⟩ := h
  obtain ⟨W1, hW1⟩ : ∃ W1, W.alloc (.cells #[.string x.key, .int .i64 x.item.k, .string x.item.t, .slice a1 x.item.l.length c1, .slice a2 x.item.p.length c2, .slice a3 x.item.s.length c3, .int .i64 x.til] 45) = W1 := ⟨_, rfl⟩
  have HB : Below W.heap.size W W1 := hW1 ▸ (Below.refl _ W).alloc (Nat.le_refl _) _
  have hc1 : W1.cell? ⟨b, 0, none⟩ = some (.int .i64 now) := (HB.cell (p := ⟨b, 0, none⟩) (World.block_lt_of_cell? _ _ hc)).trans hc
  have AH : W1.heap[W.heap.size]? = some (.cells #[.string x.key, .int .i64 x.item.k, .string x.item.t, .slice a1 x.item.l.length c1, .slice a2 x.item.p.length c2, .slice a3 x.item.s.length c3, .int .i64 x.til] 45 (0, 0)) := hW1 ▸ allocY_new W _
  have i0 : W1.cell? ⟨W.heap.size, 0, none⟩ = some (.string x.key) := by simp [World.cell?, AH]
  have i1 : W1.cell? ⟨W.heap.size, 1, none⟩ = some (.int .i64 x.item.k) := by simp [World.cell?, AH]
  have i2 : W1.cell? ⟨W.heap.size, 2, none⟩ = some (.string x.item.t) := by simp [World.cell?, AH]
  have i3 : W1.cell? ⟨W.heap.size, 3, none⟩ = some (.slice a1 x.item.l.length c1) := by simp [World.cell?, AH]
  have i4 : W1.cell? ⟨W.heap.size, 4, none⟩ = some (.slice a2 x.item.p.length c2) := by simp [World.cell?, AH]
  have i5 : W1.cell? ⟨W.heap.size, 5, none⟩ = some (.slice a3 x.item.s.length c3) := by simp [World.cell?, AH]
  have i6 : W1.cell? ⟨W.heap.size, 6, none⟩ = some (.int .i64 x.til) := by simp [World.cell?, AH]
  have HG := hide (isGone_any _ x now W1 ⟨a1, c1, a2, c2, a3, c3, rfl, hi.below HB⟩)
  clear hc hi AH
  go_enter Tryz.func138, Tryz.ntmps138
  go_wp2_with fail
  refine HG.out.mono ?_
  rintro e w1 ⟨rfl, hb1⟩
  go_wp2_with fail
  go_ret
  exact ⟨rfl, HB.trans (hb1.mono HB.size)⟩
set_option maxRecDepth 100000 in
theorem swept_any (a : Option Addr) (c : Nat) (s : List Ent) (now : Int) (w : World) (hs : SpaceAt w a s) (hn : s.length ≤ 1000000) (hf : ∀ x ∈ s, Fits x.item) :
    Calls Tryz.prog 63 #[.slice a s.length c, .int .i64 now] w fun e w' => ∃ V l, e = .returned V ∧ l.map Prod.fst = s.filter (fun x => !goneE x now) ∧ OwnSp w.heap.size w' V l ∧ Below w.heap.size w w' := by
  obtain ⟨W1, hW1⟩ : ∃ W1, w.alloc (.cells #[.int .i64 now] 3) = W1 := ⟨_, rfl⟩
  have HB : Below w.heap.size w W1 := hW1 ▸ (Below.refl _ w).alloc (Nat.le_refl _) _
  have AH : W1.heap[w.heap.size]? = some (.cells #[.int .i64 now] 3 (0, 0)) := hW1 ▸ allocY_new w _
  have hz : w.heap.size < W1.heap.size := (Array.getElem?_eq_some_iff.1 AH).1
  have hc : W1.cell? ⟨w.heap.size, 0, none⟩ = some (.int .i64 now) := by simp [World.cell?, AH]
  have HW := hide (without_swept w.heap.size (fun x => goneE x now) a c s W1 (hs.below HB) hn hf (fun x _ v W hW hv => goesGone_any w.heap.size now v x W ((hW.cell (p := ⟨w.heap.size, 0, none⟩) hz).trans hc) hv))
  clear hs hf
  go_enter Tryz.func63, Tryz.ntmps63
  go_wp2_with fail
  refine HW.out.mono ?_
  rintro e w1 ⟨V, l, rfl, hl, ho, hb⟩
  obtain ⟨ao, cp, rfl⟩ := slice_ownY ho.row
  have HH := hide (And.intro hl (And.intro (ho.low HB.size) (HB.trans (hb.mono HB.size))))
  clear hl ho hb HW hW1 hc AH
  go_wp2_with fail
  go_ret
  exact ⟨_, l, rfl, HH.out.1, HH.out.2.1, HH.out.2.2⟩
/-- what Sweep answers -/
def SweepPost (s : List Ent) (now : Int) (w : World) (e : Ending) (w' : World) : Prop :=
  (chkAt s now ≠ 0 → e = .returned (.tuple #[.slice none 0 0, .int .i64 0, .int .i64 (chkAt s now)]) ∧ Below w.heap.size w w') ∧
  (chkAt s now = 0 → ∃ V l, e = .returned (.tuple #[V, .int .i64 ((s.length : Int) - (l.length : Int)), .int .i64 0]) ∧ l.map Prod.fst = s.filter (fun x => !goneE x now) ∧ OwnSp w.heap.size w' V l ∧ Below w.heap.size w w')
set_option maxRecDepth 100000 in
theorem sweep_any (a : Option Addr) (c : Nat) (s : List Ent) (now : Int) (w : World) (hs : SpaceAt w a s) (hn : s.length ≤ 281474976710656) (hf : chkAt s now = 0 → ∀ x ∈ s, Fits x.item) :
    Calls Tryz.prog 10 #[.slice a s.length c, .int .i64 now] w (SweepPost s now w) := by
  have HC := hide (checkAt_any a c s now w hs (by omega))
  unfold SweepPost
  by_cases h0 : chkAt s now = 0
  · have HW : Hid (∀ W, Below w.heap.size w W → Calls Tryz.prog 63 #[.slice a s.length c, .int .i64 now] W fun e w' => ∃ V l, e = .returned V ∧ l.map Prod.fst = s.filter (fun x => !goneE x now) ∧ OwnSp W.heap.size w' V l ∧ Below W.heap.size W w') := fun W hW => swept_any a c s now W (hs.below hW) (small_at h0) (hf h0)
    rw [h0] at HC
    refine Calls.mono (R := fun e w' => ∃ V l, e = .returned (.tuple #[V, .int .i64 ((s.length : Int) - (l.length : Int)), .int .i64 0]) ∧ l.map Prod.fst = s.filter (fun x => !goneE x now) ∧ OwnSp w.heap.size w' V l ∧ Below w.heap.size w w') ?_ (fun e w' h => ⟨fun h1 => absurd h0 h1, fun _ => h⟩)
    clear hs hf h0
    go_enter Tryz.func10, Tryz.ntmps10
    go_wp2_with fail
    refine HC.out.mono ?_
    rintro e w1 ⟨rfl, hb1⟩
    go_wp2_with fail
    refine (HW.out w1 hb1).mono ?_
    rintro e w2 ⟨V, l, rfl, hl, ho, hb⟩
    obtain ⟨ao, cp, rfl⟩ := slice_ownY ho.row
    have hll : l.length ≤ s.length := by
      have h1 := congrArg List.length hl
      have h2 := List.length_filter_le (fun x => !goneE x now) s
      simp at h1
      omega
    have HH := hide (And.intro hl (And.intro (ho.low hb1.size) (hb1.trans (hb.mono hb1.size))))
    clear hl ho hb HW HC
    go_wp2_with fail
    refine bodyPost_ret (v := .tuple #[.slice ao l.length cp, .int .i64 ((s.length : Int) - (l.length : Int)), .int .i64 0]) (by simp [results, Tryz.results10, go_sem]) rfl ⟨_, l, rfl, HH.out.1, HH.out.2.1, HH.out.2.2⟩
  · refine Calls.mono (R := fun e w' => e = .returned (.tuple #[.slice none 0 0, .int .i64 0, .int .i64 (chkAt s now)]) ∧ Below w.heap.size w w') ?_ (fun e w' h => ⟨fun _ => h, fun h1 => absurd h1 h0⟩)
    have h0' : (chkAt s now == 0) = false := by rw [beq_eq_false_iff_ne]; exact h0
    clear hs hf h0
    generalize chkAt s now = E at *
    go_enter Tryz.func10, Tryz.ntmps10
    go_wp2_with fail
    refine HC.out.mono ?_
    rintro e w1 ⟨rfl, hb1⟩
    go_wp2_with fail
    refine bodyPost_ret (v := .tuple #[.slice none 0 0, .int .i64 0, .int .i64 E]) (by simp [results, Tryz.results10, go_sem]) rfl ⟨rfl, hb1⟩
end Go.Proofs.YtcidoodaiimhfaaGreat

/- An item, a space of one's own, as ones that lie in memory. -/
namespace Go.Proofs.YtcidoodaiimhfaaGreat
open Go.RowKit

theorem textsY {w : World} {B : Nat} {a : Option Addr} {cap : Nat} {xs : List ByteArray} (h : w.ownsRow B 9 1 (.slice a xs.length cap) xs.length (YT.strs xs)) : TextsAt w a xs := by
  rcases h.2 with ⟨hv, h0⟩ | ⟨g, cp, cur, hv, hg, _⟩
  · exact .inl (List.eq_nil_of_length_eq_zero h0)
  · injection hv with h1 h2 h3
    subst h1
    refine .inr ⟨g, 0, rfl, fun i hi => ?_⟩
    rw [Nat.zero_add, h.cellAt i (by omega)]
    simp [YT.strs, hi]
theorem pairsY {w : World} {B : Nat} {a : Option Addr} {cap : Nat} {xs : List (ByteArray × ByteArray)} (h : w.ownsRow B 87 2 (.slice a xs.length cap) xs.length (YP.rowP xs)) : PairsAt w a xs := by
  rcases h.2 with ⟨hv, h0⟩ | ⟨g, cp, cur, hv, hg, _⟩
  · exact .inl (List.eq_nil_of_length_eq_zero h0)
  · injection hv with h1 h2 h3
    subst h1
    refine .inr ⟨g, 0, rfl, fun i hi => ?_⟩
    obtain ⟨r1, r2⟩ := YP.rowP_at xs i hi
    rw [Nat.zero_add]
    exact ⟨by rw [h.cellAt _ (by omega)]; exact r1, by rw [h.cellAt _ (by omega)]; exact r2⟩
theorem scoresY {w : World} {B : Nat} {a : Option Addr} {cap : Nat} {xs : List (Int × ByteArray)} (h : w.ownsRow B 89 2 (.slice a xs.length cap) xs.length (YS.rowP xs)) : ScoresAt w a xs := by
  rcases h.2 with ⟨hv, h0⟩ | ⟨g, cp, cur, hv, hg, _⟩
  · exact .inl (List.eq_nil_of_length_eq_zero h0)
  · injection hv with h1 h2 h3
    subst h1
    refine .inr ⟨g, 0, rfl, fun i hi => ?_⟩
    obtain ⟨r1, r2⟩ := YS.rowP_at xs i hi
    rw [Nat.zero_add]
    exact ⟨by rw [h.cellAt _ (by omega)]; exact r1, by rw [h.cellAt _ (by omega)]; exact r2⟩
/-- what an item that is right, or nothing, has -/
structure Sized (x : Itm) : Prop where
  tz : x.t.size ≤ 60
  lz : ∀ t ∈ x.l, t.size ≤ 60
  ln : x.l.length ≤ 24
  pz : ∀ t ∈ x.p, t.1.size ≤ 60 ∧ t.2.size ≤ 60
  pn : x.p.length ≤ 24
  sz : ∀ t ∈ x.s, t.2.size ≤ 60
  sn : x.s.length ≤ 24
theorem sizedI {x : Itm} (hr : rightI x = 0) : Sized x := by
  by_cases hn : x.isNone = true
  · unfold Itm.isNone at hn
    rw [decide_eq_true_eq] at hn
    obtain ⟨k0, t0, l0, p0, s0⟩ := hn
    have ht := text_nil t0
    exact ⟨by omega, by simp [l0], by simp [l0], by simp [p0], by simp [p0], by simp [s0], by simp [s0]⟩
  · have hc : chkI x = 0 := by unfold rightI at hr; rwa [if_neg hn] at hr
    have R := right_of hc
    exact ⟨R.tz, R.lz, R.ln, R.pz, R.pn, R.sz, R.sn⟩
theorem chk_rightI {x : Itm} (h : chkI x = 0) : rightI x = 0 := by
  unfold rightI
  split
  · rfl
  · exact h
theorem none_isNone : Itm.none.isNone = true := by decide +kernel
theorem none_rightI : rightI Itm.none = 0 := by unfold rightI; rw [if_pos none_isNone]
theorem Sized.fits {x : Itm} (h : Sized x) : Fits x := ⟨by have := h.ln; omega, by have := h.pn; omega, by have := h.sn; omega⟩
theorem fits_sp {s : List Ent} (h : chkSp s = 0) : ∀ x ∈ s, Fits x.item := fun x hx => (sizedI (chk_rightI (chkE_right ((spRight h).e x hx)).2.1)).fits
theorem OwnItem.is {B : Nat} {w : World} {v : Value} {x : Itm} (h : OwnItem B w v x) (hr : rightI x = 0) : ItemIs w v x := by
  obtain ⟨a1, c1, a2, c2, a3, c3, e, h1, h2, h3⟩ := h
  have S := sizedI hr
  have hm : (60 : Nat) ≤ maxLen := by unfold maxLen; omega
  exact ⟨⟨a1, c1, a2, c2, a3, c3, e, textsY h1, pairsY h2, scoresY h3⟩, Nat.le_trans S.tz hm, fun t ht => Nat.le_trans (S.lz t ht) hm, fun t ht => ⟨Nat.le_trans (S.pz t ht).1 hm, Nat.le_trans (S.pz t ht).2 hm⟩, fun t ht => Nat.le_trans (S.sz t ht) hm, by have := S.ln; omega, by have := S.pn; omega, by have := S.sn; omega⟩
theorem rowE_get (l : List (Ent × Sls)) (i j : Nat) (hi : i < l.length) (hj : j < 7) : (rowE l)[i * 7 + j]? = (cellsE l[i])[j]? := by
  induction l generalizing i with
  | nil => simp at hi
  | cons p r ih =>
    have e : rowE (p :: r) = cellsE p ++ rowE r := by simp [rowE]
    have hl : (cellsE p).length = 7 := rfl
    rw [e]
    cases i with
    | zero => rw [List.getElem?_append_left (by omega)]; simp
    | succ i => rw [List.getElem?_append_right (by omega), hl, show (i + 1) * 7 + j - 7 = i * 7 + j by omega, ih i (by simpa using hi)]; simp
theorem OwnSp.at {B : Nat} {w : World} {V : Value} {l : List (Ent × Sls)} (h : OwnSp B w V l) (hr : ∀ y ∈ l, rightI y.1.item = 0) : ∃ a c, V = .slice a l.length c ∧ SpaceAt w a (l.map Prod.fst) := by
  rcases h.row.2 with ⟨rfl, h0⟩ | ⟨g, cp, cur, rfl, hg, _⟩
  · obtain rfl : l = [] := List.eq_nil_of_length_eq_zero h0
    exact ⟨none, 0, rfl, .inl rfl⟩
  · refine ⟨some ⟨g, 0, none⟩, cp, rfl, .inr ⟨g, 0, rfl, fun i hi => ?_⟩⟩
    have hi' : i < l.length := by simpa using hi
    have hmem : l[i] ∈ l := List.getElem_mem hi'
    have hit := (h.its _ hmem).is (hr _ hmem)
    have hc : ∀ j, j < 7 → w.cell? ⟨g, 0 + i * 7 + j, none⟩ = (cellsE l[i])[j]? := fun j hj => by
      rw [Nat.zero_add, h.row.cellAt (i * 7 + j) (by omega)]
      exact rowE_get l i j hi' hj
    have hc0 : w.cell? ⟨g, 0 + i * 7, none⟩ = (cellsE l[i])[0]? := hc 0 (by omega)
    rw [List.getElem_map]
    exact ⟨l[i].2.1.1, l[i].2.1.2, l[i].2.2.1.1, l[i].2.2.1.2, l[i].2.2.2.1, l[i].2.2.2.2, ⟨hc0, hc 1 (by omega), hc 2 (by omega), hc 3 (by omega), hc 4 (by omega), hc 5 (by omega), hc 6 (by omega)⟩, hit⟩
end Go.Proofs.YtcidoodaiimhfaaGreat

/- WALKS of spoilTexts and spoilItem: what is written to stays where it is. -/
namespace Go.Proofs.YtcidoodaiimhfaaGreat
open Go.RowKit

/-- what was there is there, and as writable as it was -/
def Soft (w w' : World) : Prop := ∀ g o, (w.cell? ⟨g, o, none⟩).isSome = true → (w'.cell? ⟨g, o, none⟩).isSome = true ∧ w'.frozen? ⟨g, o, none⟩ = w.frozen? ⟨g, o, none⟩
/-- blocks from B on, ahead of C -/
def rg (B C : Nat) : Nat → Prop := fun k => B ≤ k ∧ k < C
/-- cells that may be written to, of a block from B on, ahead of C -/
def Wet (B C : Nat) (w : World) (a : Option Addr) (n : Nat) : Prop := n = 0 ∨ ∃ g o, a = some ⟨g, o, none⟩ ∧ B ≤ g ∧ g < C ∧ ∀ j, j < n → (w.cell? ⟨g, o + j, none⟩).isSome = true ∧ w.frozen? ⟨g, o + j, none⟩ = false
theorem Soft.refl (w : World) : Soft w w := fun _ _ h => ⟨h, rfl⟩
theorem Soft.trans {a b c : World} (h : Soft a b) (k : Soft b c) : Soft a c := fun g o hs => by
  obtain ⟨h1, h2⟩ := h g o hs
  obtain ⟨k1, k2⟩ := k g o h1
  exact ⟨k1, k2.trans h2⟩
theorem some_setCell (w : World) (a : Addr) (v : Value) (g o : Nat) (h : (w.cell? ⟨g, o, none⟩).isSome = true) : ((w.setCell a v).cell? ⟨g, o, none⟩).isSome = true := by
  by_cases e : a = ⟨g, o, none⟩
  · rw [e, World.cell?_setCell_same' w _ v h]; rfl
  · rw [World.cell?_setCell_other _ _ _ _ e]; exact h
theorem Soft.set {a w : World} (h : Soft a w) (p : Addr) (v : Value) : Soft a (w.setCell p v) :=
  h.trans (fun g o hs => ⟨some_setCell w p v g o hs, World.frozen?_setCell _ _ _ _⟩)
theorem Soft.below {w w' : World} (h : Below w.heap.size w w') : Soft w w' := fun g o hs => by
  obtain ⟨u, hu⟩ := Option.isSome_iff_exists.1 hs
  have hl : g < w.heap.size := World.block_lt_of_cell? _ _ hu
  rw [h.cell (p := ⟨g, o, none⟩) hl, h.frozen (p := ⟨g, o, none⟩) hl]
  exact ⟨hs, rfl⟩
theorem Wet.soft {B C : Nat} {w w' : World} {a : Option Addr} {n : Nat} (h : Wet B C w a n) (hs : Soft w w') : Wet B C w' a n := by
  rcases h with h | ⟨g, o, ha, hg, hC, hc⟩
  · exact .inl h
  · refine .inr ⟨g, o, ha, hg, hC, fun j hj => ?_⟩
    obtain ⟨h1, h2⟩ := hc j hj
    obtain ⟨h3, h4⟩ := hs g (o + j) h1
    exact ⟨h3, h4.trans h2⟩
theorem Wet.wide {B C D E : Nat} {w : World} {a : Option Addr} {n : Nat} (h : Wet B C w a n) (hD : D ≤ B) (hE : C ≤ E) : Wet D E w a n := by
  rcases h with h | ⟨g, o, ha, hg, hC, hc⟩
  · exact .inl h
  · exact .inr ⟨g, o, ha, Nat.le_trans hD hg, Nat.lt_of_lt_of_le hC hE, hc⟩
set_option maxRecDepth 100000 in
set_option maxHeartbeats 1000000 in
theorem spoilTexts_any (B C : Nat) (a : Option Addr) (c n : Nat) (w : World) (h : Wet B C w a n) (hn : n ≤ 281474976710656) :
    Calls Tryz.prog 50 #[.slice a n c] w fun e w' => e = .returned (.tuple #[]) ∧ Kept (rg B C) w w' ∧ Soft w w' := by
  have HS := hide h
  clear h
  go_enter Tryz.func50, Tryz.ntmps50
  go_wp2_with fail
  go_loopw [2] (fun iv wr => ∃ k : Nat, k ≤ n ∧ iv = .int .i64 k ∧ Kept (rg B C) w wr ∧ Soft w wr) (fun iv _ => n - (intOf iv).toNat)
  case atStart => exact ⟨0, Nat.zero_le _, rfl, Kept.refl _ _, Soft.refl _⟩
  case round =>
    obtain ⟨k, hk, rfl, hbr, hsr⟩ := hrel
    by_cases hlt : k < n
    · have hlt' : ((k : Nat) : Int) < ((n : Nat) : Int) := by omega
      obtain ⟨g, o, rfl, hg, hcs⟩ : ∃ g o, a = some ⟨g, o, none⟩ ∧ (B ≤ g ∧ g < C) ∧ ∀ j, j < n → (w.cell? ⟨g, o + j, none⟩).isSome = true ∧ w.frozen? ⟨g, o + j, none⟩ = false := by
        rcases HS.out with h | h
        · omega
        · obtain ⟨g, o, h1, h2, h3, h4⟩ := h
          exact ⟨g, o, h1, ⟨h2, h3⟩, h4⟩
      obtain ⟨h1, h2⟩ := hcs k hlt
      obtain ⟨h3, h4⟩ := hsr g (o + k) h1
      have f0 : wr.frozen? ⟨g, o + k, none⟩ = false := h4.trans h2
      obtain ⟨u, c0⟩ := Option.isSome_iff_exists.1 h3
      have HR := hide (And.intro hbr (And.intro hsr hg))
      clear hcs h1 h2 h3 h4 hbr hsr
      go_wp2_with fail
      go_roundw
      case rel =>
        obtain ⟨r1, r2, r3⟩ := HR.out
        exact ⟨k + 1, by omega, by go_num, r1.setCell (p := ⟨g, o + k, none⟩) (Or.inl r3) _, r2.set _ _⟩
      case measure => simp [intOf]; omega
    · have hge : ¬ ((k : Nat) : Int) < ((n : Nat) : Int) := by omega
      go_wp2_with fail
      go_end0
      exact ⟨rfl, hbr, hsr⟩
/-- spoilItem -/
structure SpAt (B C : Nat) (w : World) (X : Array Value) (wr : World) : Prop where
  be : Kept (rg B C) w wr
  so : Soft w wr
  bx : wr.heap[w.heap.size]? = some (.cells X 28 (0, 0))
theorem SpAt.set {B C : Nat} {w wr : World} {X : Array Value} (h : SpAt B C w X wr) {g o : Nat} (v : Value) (hg : B ≤ g ∧ g < C) (hl : g < w.heap.size) : SpAt B C w X (wr.setCell ⟨g, o, none⟩ v) :=
  ⟨h.be.setCell (p := ⟨g, o, none⟩) (Or.inl hg) _, h.so.set _ _, (Below.heap_setCell wr ⟨g, o, none⟩ v w.heap.size (by show w.heap.size ≠ g; omega)).trans h.bx⟩
theorem Wet.at {B C : Nat} {w wr : World} {a : Option Addr} {n : Nat} (h : Wet B C w a n) (hs : Soft w wr) (hn : 0 < n) : ∃ g o, a = some ⟨g, o, none⟩ ∧ (B ≤ g ∧ g < C) ∧ g < w.heap.size ∧ ∀ j, j < n → (∃ u, wr.cell? ⟨g, o + j, none⟩ = some u) ∧ wr.frozen? ⟨g, o + j, none⟩ = false := by
  rcases id h with h0 | ⟨g, o, ha, hg, hC, hc⟩
  · omega
  · obtain ⟨u, hu⟩ := Option.isSome_iff_exists.1 (hc 0 hn).1
    refine ⟨g, o, ha, ⟨hg, hC⟩, World.block_lt_of_cell? _ _ hu, fun j hj => ?_⟩
    obtain ⟨h1, h2⟩ := hc j hj
    obtain ⟨h3, h4⟩ := hs g (o + j) h1
    exact ⟨Option.isSome_iff_exists.1 h3, h4.trans h2⟩
set_option maxRecDepth 100000 in
set_option maxHeartbeats 4000000 in
theorem spoilItem_any (B C : Nat) (kd : Int) (tx : ByteArray) (a1 : Option Addr) (n1 c1 : Nat) (a2 : Option Addr) (n2 c2 : Nat) (a3 : Option Addr) (n3 c3 : Nat) (w : World) (h1 : Wet B C w a1 n1) (h2 : Wet B C w a2 (n2 * 2)) (h3 : Wet B C w a3 (n3 * 2)) (m1 : n1 ≤ 281474976710656) (m2 : n2 ≤ 281474976710656) (m3 : n3 ≤ 281474976710656) :
    Calls Tryz.prog 49 #[.agg #[.int .i64 kd, .string tx, .slice a1 n1 c1, .slice a2 n2 c2, .slice a3 n3 c3]] w fun e w' => e = .returned (.tuple #[]) ∧ Kept (rg B C) w w' ∧ Soft w w' := by
  have H1 := hide h1
  have H2 := hide h2
  have H3 := hide h3
  clear h1 h2 h3
  obtain ⟨W0, hW0⟩ : ∃ W0, w.alloc (.cells #[.int .i64 kd, .string tx, .slice a1 n1 c1, .slice a2 n2 c2, .slice a3 n3 c3] 28) = W0 := ⟨_, rfl⟩
  have S0 : SpAt B C w #[.int .i64 kd, .string tx, .slice a1 n1 c1, .slice a2 n2 c2, .slice a3 n3 c3] W0 := ⟨hW0 ▸ (Kept.refl _ w).alloc _, Soft.below (hW0 ▸ (Below.refl _ w).alloc (Nat.le_refl _) _), hW0 ▸ allocY_new w _⟩
  have HS0 := hide S0
  clear S0
  go_enter Tryz.func49, Tryz.ntmps49
  go_wp2_with fail
  go_loopw [2] (fun iv wr => ∃ k : Nat, k ≤ n1 ∧ iv = .int .i64 k ∧ Hid (SpAt B C w #[.int .i64 kd, .string tx, .slice a1 n1 c1, .slice a2 n2 c2, .slice a3 n3 c3] wr)) (fun iv _ => n1 - (intOf iv).toNat)
  case atStart => exact ⟨0, Nat.zero_le _, rfl, HS0⟩
  case round =>
    obtain ⟨k, hk, rfl, HR⟩ := hrel
    have bx := HR.out.bx
    have x2 : wr.cell? ⟨w.heap.size, 2, none⟩ = some (.slice a1 n1 c1) := by simp [World.cell?, bx]
    by_cases hlt : k < n1
    · have hlt' : ((k : Nat) : Int) < ((n1 : Nat) : Int) := by omega
      obtain ⟨g, o, ha, hg, hl, hc⟩ := H1.out.at HR.out.so (by omega)
      subst ha
      obtain ⟨⟨u, c0⟩, f0⟩ := hc k hlt
      have HG := hide (And.intro hg hl)
      clear hc hg hl bx
      go_wp2_with fail
      go_roundw
      case rel =>
        exact ⟨k + 1, by omega, by go_num, HR.out.set _ HG.out.1 HG.out.2⟩
      case measure => simp [intOf]; omega
    · have hge : ¬ ((k : Nat) : Int) < ((n1 : Nat) : Int) := by omega
      clear hk bx hlt
      have HS1 := HR
      go_wp2_with fail
      go_loopw [3] (fun iv wr => ∃ k : Nat, k ≤ n2 ∧ iv = .int .i64 k ∧ Hid (SpAt B C w #[.int .i64 kd, .string tx, .slice a1 n1 c1, .slice a2 n2 c2, .slice a3 n3 c3] wr)) (fun iv _ => n2 - (intOf iv).toNat)
      case atStart => exact ⟨0, Nat.zero_le _, rfl, HS1⟩
      case round =>
        obtain ⟨k, hk, rfl, HR⟩ := hrel
        have bx := HR.out.bx
        have x3 : wr.cell? ⟨w.heap.size, 3, none⟩ = some (.slice a2 n2 c2) := by simp [World.cell?, bx]
        by_cases hlt : k < n2
        · have hlt' : ((k : Nat) : Int) < ((n2 : Nat) : Int) := by omega
          obtain ⟨g, o, ha, hg, hl, hc⟩ := H2.out.at HR.out.so (by omega)
          subst ha
          obtain ⟨⟨u, c0⟩, f0⟩ := hc (k * 2) (by omega)
          have HG := hide (And.intro hg hl)
          clear hc hg hl bx
          go_wp2_with fail
          go_roundw
          case rel =>
            exact ⟨k + 1, by omega, by go_num, HR.out.set _ HG.out.1 HG.out.2⟩
          case measure => simp [intOf]; omega
        · have hge : ¬ ((k : Nat) : Int) < ((n2 : Nat) : Int) := by omega
          clear hk bx hlt
          have HS2 := HR
          go_wp2_with fail
          go_loopw [4] (fun iv wr => ∃ k : Nat, k ≤ n3 ∧ iv = .int .i64 k ∧ Hid (SpAt B C w #[.int .i64 kd, .string tx, .slice a1 n1 c1, .slice a2 n2 c2, .slice a3 n3 c3] wr)) (fun iv _ => n3 - (intOf iv).toNat)
          case atStart => exact ⟨0, Nat.zero_le _, rfl, HS2⟩
          case round =>
            obtain ⟨k, hk, rfl, HR⟩ := hrel
            have bx := HR.out.bx
            have x4 : wr.cell? ⟨w.heap.size, 4, none⟩ = some (.slice a3 n3 c3) := by simp [World.cell?, bx]
            by_cases hlt : k < n3
            · have hlt' : ((k : Nat) : Int) < ((n3 : Nat) : Int) := by omega
              obtain ⟨g, o, ha, hg, hl, hc⟩ := H3.out.at HR.out.so (by omega)
              subst ha
              obtain ⟨⟨u, c0⟩, f0⟩ := hc (k * 2) (by omega)
              have HG := hide (And.intro hg hl)
              clear hc hg hl bx
              go_wp2_with fail
              go_roundw
              case rel =>
                exact ⟨k + 1, by omega, by go_num, HR.out.set _ HG.out.1 HG.out.2⟩
              case measure => simp [intOf]; omega
            · have hge : ¬ ((k : Nat) : Int) < ((n3 : Nat) : Int) := by omega
              clear hk bx hlt
              go_wp2_with fail
              go_end0
              exact ⟨rfl, HR.out.be, HR.out.so⟩
end Go.Proofs.YtcidoodaiimhfaaGreat

/- What is memory of its own may be written to. -/
namespace Go.Proofs.YtcidoodaiimhfaaGreat
open Go.RowKit

/-- a world in which all below a block, and all that may not be written to, is something else -/
def wipeO (B k : Nat) : Obj → Obj
  | .cells cs e (lo, hi) => if k < B then .cells #[] e (lo, hi) else .cells (cs.mapIdx fun i v => if lo ≤ i && i < hi then .bool true else v) e (lo, hi)
  | o => o
def wipe (B : Nat) (w : World) : World := { w with heap := w.heap.mapIdx (wipeO B) }
theorem wipe_kept {B : Nat} {w : World} (g o : Nat) (u : Value) (hg : B ≤ g) (hu : w.cell? ⟨g, o, none⟩ = some u) (hf : w.frozen? ⟨g, o, none⟩ = false) : (wipe B w).cell? ⟨g, o, none⟩ = some u := by
  unfold World.cell? World.frozen? wipe at *
  simp only [Array.getElem?_mapIdx] at *
  cases hx : w.heap[g]? with
  | none => rw [hx] at hu; simp at hu
  | some x =>
    rw [hx] at hu hf
    cases x with
    | cells cs e fz =>
      obtain ⟨lo, hi⟩ := fz
      simp only [Option.map_some, wipeO] at hu hf ⊢
      rw [if_neg (by omega)]
      simp only [Option.isSome_none, Bool.false_eq_true, if_false, Array.getElem?_mapIdx] at hu ⊢
      rw [hu]
      simp [hf]
    | _ => simp at hu
theorem wipe_was {B : Nat} {w : World} (g o : Nat) (u : Value) (hu : (wipe B w).cell? ⟨g, o, none⟩ = some u) (hne : u ≠ .bool true) : B ≤ g ∧ (w.cell? ⟨g, o, none⟩).isSome = true ∧ w.frozen? ⟨g, o, none⟩ = false := by
  unfold World.cell? World.frozen? wipe at *
  simp only [Array.getElem?_mapIdx] at *
  cases hx : w.heap[g]? with
  | none => rw [hx] at hu; simp at hu
  | some x =>
    rw [hx] at hu
    cases x with
    | cells cs e fz =>
      obtain ⟨lo, hi⟩ := fz
      simp only [Option.map_some, wipeO] at hu ⊢
      by_cases hg : g < B
      · rw [if_pos hg] at hu
        simp at hu
      · rw [if_neg hg] at hu
        simp only [Option.isSome_none, Bool.false_eq_true, if_false, Array.getElem?_mapIdx] at hu ⊢
        refine ⟨by omega, ?_⟩
        cases hc : cs[o]? with
        | none => rw [hc] at hu; simp at hu
        | some y =>
          rw [hc] at hu
          simp only [Option.map_some, Option.some.injEq] at hu
          refine ⟨rfl, ?_⟩
          cases hb : (decide (lo ≤ o) && decide (o < hi)) with
          | false => rfl
          | true => rw [hb, if_pos rfl] at hu; exact absurd hu.symm hne
    | _ => simp [wipeO] at hu
theorem some_lt {w : World} {g o : Nat} (h : (w.cell? ⟨g, o, none⟩).isSome = true) : g < w.heap.size := by
  obtain ⟨u, hu⟩ := Option.isSome_iff_exists.1 h
  exact World.block_lt_of_cell? _ _ hu
theorem TextsOwn.wet {B : Nat} {w : World} {a : Option Addr} {l : List ByteArray} (h : TextsOwn B w a l) : Wet B w.heap.size w a l.length := by
  rcases h (wipe B w) wipe_kept with h | ⟨g, o, ha, hc⟩
  · exact .inl (by rw [h]; rfl)
  · by_cases h0 : l.length = 0
    · exact .inl h0
    · refine .inr ⟨g, o, ha, (wipe_was g _ _ (hc 0 (by omega)) (by simp)).1, some_lt (wipe_was g _ _ (hc 0 (by omega)) (by simp)).2.1, fun j hj => (wipe_was g _ _ (hc j hj) (by simp)).2⟩
theorem ItemOwn.wet {B : Nat} {w : World} {k : Int} {t : ByteArray} {a1 a2 a3 : Option Addr} {n1 n2 n3 c1 c2 c3 : Nat} {x : Itm} (h : ItemOwn B w (.agg #[.int .i64 k, .string t, .slice a1 n1 c1, .slice a2 n2 c2, .slice a3 n3 c3]) x) : Wet B w.heap.size w a1 n1 ∧ Wet B w.heap.size w a2 (n2 * 2) ∧ Wet B w.heap.size w a3 (n3 * 2) := by
  obtain ⟨⟨b1, d1, b2, d2, b3, d3, e, h1, h2, h3⟩, -⟩ := h (wipe B w) wipe_kept
  simp only [Value.agg.injEq, Array.mk.injEq, List.cons.injEq, Value.slice.injEq] at e
  obtain ⟨-, -, ⟨rfl, rfl, rfl⟩, ⟨rfl, rfl, rfl⟩, ⟨rfl, rfl, rfl⟩, -⟩ := e
  refine ⟨?_, ?_, ?_⟩
  · rcases h1 with h | ⟨g, o, ha, hc⟩
    · exact .inl (by rw [h]; rfl)
    · by_cases h0 : x.l.length = 0
      · exact .inl h0
      · exact .inr ⟨g, o, ha, (wipe_was g _ _ (hc 0 (by omega)) (by simp)).1, some_lt (wipe_was g _ _ (hc 0 (by omega)) (by simp)).2.1, fun j hj => (wipe_was g _ _ (hc j hj) (by simp)).2⟩
  · rcases h2 with h | ⟨g, o, ha, hc⟩
    · exact .inl (by rw [h]; rfl)
    · by_cases h0 : x.p.length = 0
      · exact .inl (by omega)
      · refine .inr ⟨g, o, ha, (wipe_was g _ _ (hc 0 (by omega)).1 (by simp)).1, some_lt (wipe_was g _ _ (hc 0 (by omega)).1 (by simp)).2.1, fun j hj => ?_⟩
        have hj2 : j / 2 < x.p.length := by omega
        rcases Nat.mod_two_eq_zero_or_one j with h | h
        · have := (wipe_was g _ _ (hc (j / 2) hj2).1 (by simp)).2
          rwa [show o + j / 2 * 2 = o + j by omega] at this
        · have := (wipe_was g _ _ (hc (j / 2) hj2).2 (by simp)).2
          rwa [show o + j / 2 * 2 + 1 = o + j by omega] at this
  · rcases h3 with h | ⟨g, o, ha, hc⟩
    · exact .inl (by rw [h]; rfl)
    · by_cases h0 : x.s.length = 0
      · exact .inl (by omega)
      · refine .inr ⟨g, o, ha, (wipe_was g _ _ (hc 0 (by omega)).1 (by simp)).1, some_lt (wipe_was g _ _ (hc 0 (by omega)).1 (by simp)).2.1, fun j hj => ?_⟩
        have hj2 : j / 2 < x.s.length := by omega
        rcases Nat.mod_two_eq_zero_or_one j with h | h
        · have := (wipe_was g _ _ (hc (j / 2) hj2).1 (by simp)).2
          rwa [show o + j / 2 * 2 = o + j by omega] at this
        · have := (wipe_was g _ _ (hc (j / 2) hj2).2 (by simp)).2
          rwa [show o + j / 2 * 2 + 1 = o + j by omega] at this
end Go.Proofs.YtcidoodaiimhfaaGreat

/- WALK of copiedItem: its one region draws its order: what has come up so far tells what lies where. -/
namespace Go.Proofs.YtcidoodaiimhfaaGreat
open Go.RowKit

/-- A region whose order is drawn, by what holds at each point. -/
theorem wpAny_inv {P : Program} {md : Region.Mode} {ops : Array Oper} {Q : Exit → Act → World → Prop} (J : Array Bool → Act → World → Prop)
    (hend : ∀ l a w, J l a w → Region.ready md ops l = [] → Q .normal a w)
    (hst : ∀ l a w i, J l a w → i ∈ Region.ready md ops l → wpOp P ops Q i (fun a' w' => J (l.setIfInBounds i true) a' w') a w) :
    ∀ (fuel : Nat) (l : Array Bool) (a : Act) (w : World), J l a w → l.toList.count false ≤ fuel → wpAny P md ops Q fuel l a w := by
  have hpos : ∀ (l : Array Bool) (i : Nat), i ∈ Region.ready md ops l → ∃ h : i < l.toList.length, l.toList[i] = false := fun l i hi => by
    have h0 := (mem_ready.1 hi).1
    rcases Nat.lt_or_ge i l.size with h | h
    · exact ⟨by simpa using h, by simpa [h] using h0⟩
    · simp [Array.getElem?_eq_none h] at h0
  intro fuel
  induction fuel with
  | zero =>
    intro l a w hJ hf
    have hr : Region.ready md ops l = [] := by
      cases hr : Region.ready md ops l with
      | nil => rfl
      | cons i r =>
        obtain ⟨h1, h2⟩ := hpos l i (by rw [hr]; simp)
        have hm : false ∈ l.toList := h2 ▸ List.getElem_mem h1
        have := List.count_pos_iff.2 hm
        omega
    exact ⟨hr, hend l a w hJ hr⟩
  | succ fuel ih =>
    intro l a w hJ hf
    refine ⟨hend l a w hJ, fun i hi => ?_⟩
    obtain ⟨h1, h2⟩ := hpos l i hi
    have hm : false ∈ l.toList := h2 ▸ List.getElem_mem h1
    have hp := List.count_pos_iff.2 hm
    refine wpOp_mono (fun a' w' hJ' => ih _ a' w' hJ' ?_) (hst l a w i hJ hi)
    rw [Array.toList_setIfInBounds, List.count_set h1, h2]
    simp at hf hp ⊢
    omega
/-- what an append onto a literal of nothing gives -/
theorem run_append_lit {P : Program} (w : World) (base : Nat) (t ty e : TypeId) (i : TypeInfo) (z : Value) (size bytes : Nat) (ht : P.underlying t = some (.slice e)) (hi : P.info? e = some i) (hz : i.zero = some z)
    (hsize : i.size = size) (hby : i.bytes = bytes) (hzs : z.cells.size = size) (hsz : 0 < size)
    (g : Nat) (hbg : base ≤ g) (hg : w.heap[g]? = some (.cells #[] e (0, 0)))
    (ad : Option Addr) (m c : Nat) (news : List Value) (hl : news.length = m * size) (hnews : ∀ a, ad = some a → ∀ j u, news[j]? = some u → w.cell? (a.add j) = some u) (h0 : ad = none → m = 0) (h1 : ∀ u ∈ news, u.oneCell' = true)
    (h63 : m ≤ maxLen) (hbytes : m * bytes ≤ 140737488355328) (hbase : base ≤ w.heap.size) :
    ∃ v' w', (Builtin.append_ #[t, t] ty #[.slice (some ⟨g, 0, none⟩) 0 0, .slice ad m c]).run P w = .ok v' w' ∧ w'.ownsRow base e size v' m news ∧ Below w.heap.size w w' := by
  have hown : w.ownsRow base e size (.slice (some ⟨g, 0, none⟩) 0 0) 0 [] := ⟨by simp, .inr ⟨g, 0, #[], rfl, hbg, hg, by omega, by simp [maxLen], by simp, by simp⟩⟩
  by_cases hm : m = 0
  · subst hm
    have hn : news = [] := List.eq_nil_of_length_eq_zero (by simpa using hl)
    subst hn
    have hr : (Builtin.append_ #[t, t] ty #[.slice (some ⟨g, 0, none⟩) 0 0, .slice ad 0 c]).run P w = .ok (.slice (some ⟨g, 0, none⟩) 0 0) w := by
      cases ad <;> simp [Builtin.append_, run_underlying ht, sizeOf, typeInfo, hi, Builtin.lenOf, Builtin.firstCells, storeCells, loadCells, loadCellsFrom]
    exact ⟨_, _, hr, hown, Below.refl _ _⟩
  · cases ad with
    | none => exact absurd (h0 rfl) hm
    | some a =>
      obtain ⟨v', w', hr, ho, hgr, -⟩ := run_append_own (P := P) w base t ty e i z size bytes ht hi hz hsize hby hzs hsz _ 0 [] hown a m c news hl (hnews a rfl) h1 (by omega) (by simpa using hbytes) hbase
      have hr2 := run_append_grow (P := P) w t ty e i z ht hi hz ⟨g, 0, none⟩ 0 0 [] (by simp) (by simp) a m c news (by rw [hl, hsize]) (hnews a rfl) (by omega) (by simp only [maxLen] at h63; omega) (growslice_fits (by omega) (by rw [hby]; simpa using hbytes))
      rw [hr2] at hr
      injection hr with e1 e2
      subst e2
      refine ⟨_, _, hr2.trans (by rw [e1]), by simpa using ho, (Below.refl _ w).drew.alloc (Nat.le_refl _) _⟩
def LitAt (B T : Nat) (w : World) (v : Value) : Prop := ∃ g, v = .slice (some ⟨g, 0, none⟩) 0 0 ∧ B ≤ g ∧ w.heap[g]? = some (.cells #[] T (0, 0))
theorem LitAt.below {B T : Nat} {w w' : World} {v : Value} (h : LitAt B T w v) (hb : Below w.heap.size w w') : LitAt B T w' v := by
  obtain ⟨g, h1, h2, h3⟩ := h
  exact ⟨g, h1, h2, (hb.block g (Array.getElem?_eq_some_iff.1 h3).1).trans h3⟩
theorem LitAt.set {B T : Nat} {w : World} {v : Value} (h : LitAt B T w v) {p : Addr} (hp : p.block < B) (u : Value) : LitAt B T (w.setCell p u) v := by
  obtain ⟨g, h1, h2, h3⟩ := h
  exact ⟨g, h1, h2, (Below.heap_setCell w p u g (by omega)).trans h3⟩
/-- what lies in memory, by what has come up -/
structure CpW (w0 : World) (x : Itm) (X : Array Value) (w : World) (b0 b4 b8 b3 b7 b11 : Bool) (u3 u7 u11 u6 u10 u14 : Value) : Prop where
  be : Below w0.heap.size w0 w
  bx : w.heap[w0.heap.size]? = some (.cells X 28 (0, 0))
  rb : w.heap[w0.heap.size + 1]? = some (.cells #[.int .i64 0, .string ⟨#[]⟩, .slice none 0 0, .slice none 0 0, .slice none 0 0] 28 (0, 0))
  l3 : b0 = true → LitAt (w0.heap.size + 2) 9 w u3
  l7 : b4 = true → LitAt (w0.heap.size + 2) 87 w u7
  l11 : b8 = true → LitAt (w0.heap.size + 2) 89 w u11
  o6 : b3 = true → w.ownsRow (w0.heap.size + 2) 9 1 u6 x.l.length (YT.strs x.l)
  o10 : b7 = true → w.ownsRow (w0.heap.size + 2) 87 2 u10 x.p.length (YP.rowP x.p)
  o14 : b11 = true → w.ownsRow (w0.heap.size + 2) 89 2 u14 x.s.length (YS.rowP x.s)
theorem CpW.below {w0 : World} {x : Itm} {X : Array Value} {w w' : World} {b0 b4 b8 b3 b7 b11 : Bool} {u3 u7 u11 u6 u10 u14 : Value} (h : CpW w0 x X w b0 b4 b8 b3 b7 b11 u3 u7 u11 u6 u10 u14) (hb : Below w.heap.size w w') : CpW w0 x X w' b0 b4 b8 b3 b7 b11 u3 u7 u11 u6 u10 u14 :=
  ⟨h.be.trans (hb.mono h.be.size), (hb.block _ (Array.getElem?_eq_some_iff.1 h.bx).1).trans h.bx, (hb.block _ (Array.getElem?_eq_some_iff.1 h.rb).1).trans h.rb, fun e => (h.l3 e).below hb, fun e => (h.l7 e).below hb, fun e => (h.l11 e).below hb, fun e => row_belowY (h.o6 e) hb, fun e => row_belowY (h.o10 e) hb, fun e => row_belowY (h.o14 e) hb⟩
theorem CpW.set {w0 : World} {x : Itm} {X : Array Value} {w : World} {b0 b4 b8 b3 b7 b11 : Bool} {u3 u7 u11 u6 u10 u14 : Value} (h : CpW w0 x X w b0 b4 b8 b3 b7 b11 u3 u7 u11 u6 u10 u14) (j : Nat) (u : Value) : CpW w0 x (X.setIfInBounds j u) (w.setCell ⟨w0.heap.size, j, none⟩ u) b0 b4 b8 b3 b7 b11 u3 u7 u11 u6 u10 u14 :=
  ⟨h.be.setCell (p := ⟨w0.heap.size, j, none⟩) (Nat.le_refl _) _, setCell_heapY h.bx j u, (Below.heap_setCell w ⟨w0.heap.size, j, none⟩ u (w0.heap.size + 1) (by show w0.heap.size + 1 ≠ w0.heap.size; omega)).trans h.rb, fun e => (h.l3 e).set (p := ⟨w0.heap.size, j, none⟩) (by show w0.heap.size < _; omega) _, fun e => (h.l7 e).set (p := ⟨w0.heap.size, j, none⟩) (by show w0.heap.size < _; omega) _, fun e => (h.l11 e).set (p := ⟨w0.heap.size, j, none⟩) (by show w0.heap.size < _; omega) _, fun e => ownsRow_setCell_below (h.o6 e) (a := ⟨w0.heap.size, j, none⟩) (by show w0.heap.size < _; omega) _, fun e => ownsRow_setCell_below (h.o10 e) (a := ⟨w0.heap.size, j, none⟩) (by show w0.heap.size < _; omega) _, fun e => ownsRow_setCell_below (h.o14 e) (a := ⟨w0.heap.size, j, none⟩) (by show w0.heap.size < _; omega) _⟩
/-- what the slots hold, by what has come up -/
structure CpA (w0 : World) (x : Itm) (a1 a2 a3 : Option Addr) (c1 c2 c3 : Nat) (b0 b1 b2 b3 b4 b5 b6 b7 b8 b9 b10 b11 b12 b13 b14 b15 b16 b17 : Bool) (u4 u8 u12 u5 u9 u13 u15 u16 u17 u6 u10 u14 y2 y3 y4 : Value) : Prop where
  f4 : b1 = true → u4 = .pointer (some ⟨w0.heap.size, 2, none⟩)
  f8 : b5 = true → u8 = .pointer (some ⟨w0.heap.size, 3, none⟩)
  f12 : b9 = true → u12 = .pointer (some ⟨w0.heap.size, 4, none⟩)
  f5 : b2 = true → u5 = .slice a1 x.l.length c1
  f9 : b6 = true → u9 = .slice a2 x.p.length c2
  f13 : b10 = true → u13 = .slice a3 x.s.length c3
  f15 : b12 = true → u15 = .pointer (some ⟨w0.heap.size, 2, none⟩)
  f16 : b14 = true → u16 = .pointer (some ⟨w0.heap.size, 3, none⟩)
  f17 : b16 = true → u17 = .pointer (some ⟨w0.heap.size, 4, none⟩)
  s2 : b13 = true → y2 = u6
  s3 : b15 = true → y3 = u10
  s4 : b17 = true → y4 = u14
  dn13 : b13 = true → b3 = true
  dn15 : b15 = true → b7 = true
  dn17 : b17 = true → b11 = true
  y2f : b2 = false → y2 = .slice a1 x.l.length c1
  y3f : b6 = false → y3 = .slice a2 x.p.length c2
  y4f : b10 = false → y4 = .slice a3 x.s.length c3
def CpJ (w0 : World) (x : Itm) (a1 a2 a3 : Option Addr) (c1 c2 c3 : Nat) (d : List Deferred) (l : Array Bool) (a : Act) (w : World) : Prop :=
  ∃ b0 b1 b2 b3 b4 b5 b6 b7 b8 b9 b10 b11 b12 b13 b14 b15 b16 b17 u0 u3 u4 u5 u6 u7 u8 u9 u10 u11 u12 u13 u14 u15 u16 u17 u18 y2 y3 y4, l = #[b0, b1, b2, b3, b4, b5, b6, b7, b8, b9, b10, b11, b12, b13, b14, b15, b16, b17] ∧ a = ⟨#[u0, .pointer (some ⟨w0.heap.size, 0, none⟩), .pointer (some ⟨w0.heap.size + 1, 0, none⟩), u3, u4, u5, u6, u7, u8, u9, u10, u11, u12, u13, u14, u15, u16, u17, u18], d⟩ ∧ CpA w0 x a1 a2 a3 c1 c2 c3 b0 b1 b2 b3 b4 b5 b6 b7 b8 b9 b10 b11 b12 b13 b14 b15 b16 b17 u4 u8 u12 u5 u9 u13 u15 u16 u17 u6 u10 u14 y2 y3 y4 ∧ CpW w0 x #[.int .i64 x.k, .string x.t, y2, y3, y4] w b0 b4 b8 b3 b7 b11 u3 u7 u11 u6 u10 u14
theorem ready_dep {md : Region.Mode} {ops : Array Oper} {l : Array Bool} {i : Nat} (h : i ∈ Region.ready md ops l) (j : Nat) (hd : (ops[i]?.map fun o => o.after.any fun e => e.on == j && Region.binds md e) = some true) : l.getD j false = true := by
  obtain ⟨-, o, ho, hall⟩ := mem_ready.1 h
  rw [ho] at hd
  simp only [Option.map_some, Option.some.injEq, Array.any_eq_true'] at hd
  obtain ⟨e, he, h1⟩ := hd
  simp only [Bool.and_eq_true, beq_iff_eq] at h1
  rw [← h1.1]
  exact hall e he h1.2
theorem ready_up {md : Region.Mode} {ops : Array Oper} {l : Array Bool} (hr : Region.ready md ops l = []) (i : Nat) {o : Oper} (ho : ops[i]? = some o) (h : ∀ e ∈ o.after, Region.binds md e = true → l.getD e.on false = true) : l.getD i true = true := by
  cases h0 : l.getD i true with
  | true => rfl
  | false =>
    have : i ∈ Region.ready md ops l := mem_ready.2 ⟨h0, o, ho, h⟩
    rw [hr] at this
    cases this
theorem wp_append_run {P : Program} {w : World} {o : Oper} {a : Act} {K : Act → World → Prop} {Q : Exit → Act → World → Prop} (s x : Operand) (t : TypeId) (ho : o.op = .call { callee := .builtin .append, args := #[s, x], argTypes := #[t, t] }) {v y v' : Value} {w' : World} (hs : a.eval s = v) (hx : a.eval x = y)
    (hr : (Builtin.append_ #[t, t] o.type #[v, y]).run P w = .ok v' w') (h : K (a.put o.dst v') w') : o.wp P a w K Q := by
  unfold Oper.wp execOp
  simp only [ho, resolve, invoke, builtin, Sem.run_bind, Sem.run_pure, Result.andThen_ok, List.map_toArray, List.map_cons, List.map_nil, hs, hx, hr]
  exact h
set_option maxRecDepth 100000 in
set_option maxHeartbeats 8000000 in
theorem copiedItem_any (v : Value) (x : Itm) (w : World) (h : ItemIs w v x) (hl : x.l.length ≤ 2000000) (hp : x.p.length ≤ 2000000) (hs : x.s.length ≤ 2000000) :
    Calls Tryz.prog 31 #[v] w fun e w' => ∃ v', e = .returned v' ∧ OwnItem w.heap.size w' v' x ∧ Below w.heap.size w w' := by
  obtain ⟨a1, c1, a2, c2, a3, c3, rfl, h1, h2, h3⟩ := h.ex
  have H1 := hide h1
  have H2 := hide h2
  have H3 := hide h3
  clear h1 h2 h3
  obtain ⟨W1, hW1⟩ : ∃ W1, (w.alloc (.cells #[.int .i64 x.k, .string x.t, .slice a1 x.l.length c1, .slice a2 x.p.length c2, .slice a3 x.s.length c3] 28)).alloc (.cells #[.int .i64 0, .string ⟨#[]⟩, .slice none 0 0, .slice none 0 0, .slice none 0 0] 28) = W1 := ⟨_, rfl⟩
  have HB : Below w.heap.size w W1 := hW1 ▸ ((Below.refl _ w).alloc (Nat.le_refl _) _).alloc (by simp) _
  have HH : W1.heap[w.heap.size]? = some (.cells #[.int .i64 x.k, .string x.t, .slice a1 x.l.length c1, .slice a2 x.p.length c2, .slice a3 x.s.length c3] 28 (0, 0)) := by
    rw [← hW1]
    have h1 := allocY_new w (.cells #[.int .i64 x.k, .string x.t, .slice a1 x.l.length c1, .slice a2 x.p.length c2, .slice a3 x.s.length c3] 28)
    exact (((Below.refl _ _).alloc (Nat.le_refl _) _ : Below _ _ _).block _ (Array.getElem?_eq_some_iff.1 h1).1).trans h1
  have HR : W1.heap[w.heap.size + 1]? = some (.cells #[.int .i64 0, .string ⟨#[]⟩, .slice none 0 0, .slice none 0 0, .slice none 0 0] 28 (0, 0)) := by
    rw [← hW1]
    have h1 := allocY_new (w.alloc (.cells #[.int .i64 x.k, .string x.t, .slice a1 x.l.length c1, .slice a2 x.p.length c2, .slice a3 x.s.length c3] 28)) (.cells #[.int .i64 0, .string ⟨#[]⟩, .slice none 0 0, .slice none 0 0, .slice none 0 0] 28)
    rwa [World.size_alloc] at h1
  obtain ⟨i1, hi1, hz1, hs1, hb1⟩ := info_parts YT.infoStr
  obtain ⟨i2, hi2, hz2, hs2, hb2⟩ := info_parts YP.infoPair
  obtain ⟨i3, hi3, hz3, hs3, hb3⟩ := info_parts YS.infoScore
  go_enter Tryz.func31, Tryz.ntmps31
  go_wp2_with fail
  refine wp_region_any (by kernel_rfl) ?_
  refine wpAny_inv (CpJ w x a1 a2 a3 c1 c2 c3 []) ?_ ?_ _ _ _ _ ?_ ?_
  · rintro l a W ⟨b0, b1, b2, b3, b4, b5, b6, b7, b8, b9, b10, b11, b12, b13, b14, b15, b16, b17, u0, u3, u4, u5, u6, u7, u8, u9, u10, u11, u12, u13, u14, u15, u16, u17, u18, y2, y3, y4, rfl, rfl, HA, HW⟩ hr
    obtain rfl : b0 = true := ready_up hr 0 rfl (by simp [Region.binds])
    obtain rfl : b1 = true := ready_up hr 1 rfl (by simp [Region.binds])
    obtain rfl : b2 = true := ready_up hr 2 rfl (by simp [Region.binds])
    obtain rfl : b3 = true := ready_up hr 3 rfl (by simp [Region.binds])
    obtain rfl : b4 = true := ready_up hr 4 rfl (by simp [Region.binds])
    obtain rfl : b5 = true := ready_up hr 5 rfl (by simp [Region.binds])
    obtain rfl : b6 = true := ready_up hr 6 rfl (by simp [Region.binds])
    obtain rfl : b7 = true := ready_up hr 7 rfl (by simp [Region.binds])
    obtain rfl : b8 = true := ready_up hr 8 rfl (by simp [Region.binds])
    obtain rfl : b9 = true := ready_up hr 9 rfl (by simp [Region.binds])
    obtain rfl : b10 = true := ready_up hr 10 rfl (by simp [Region.binds])
    obtain rfl : b11 = true := ready_up hr 11 rfl (by simp [Region.binds])
    obtain rfl : b12 = true := ready_up hr 12 rfl (by simp [Region.binds])
    obtain rfl : b13 = true := ready_up hr 13 rfl (by simp [Region.binds])
    obtain rfl : b14 = true := ready_up hr 14 rfl (by simp [Region.binds])
    obtain rfl : b15 = true := ready_up hr 15 rfl (by simp [Region.binds])
    obtain rfl : b16 = true := ready_up hr 16 rfl (by simp [Region.binds])
    obtain rfl : b17 = true := ready_up hr 17 rfl (by simp [Region.binds])
    obtain rfl := HA.s2 rfl
    obtain rfl := HA.s3 rfl
    obtain rfl := HA.s4 rfl
    have o1 := HW.o6 rfl
    have o2 := HW.o10 rfl
    have o3 := HW.o14 rfl
    obtain ⟨b1, d1, rfl⟩ := slice_ownY o1
    obtain ⟨b2, d2, rfl⟩ := slice_ownY o2
    obtain ⟨b3, d3, rfl⟩ := slice_ownY o3
    have P3 := HW.bx
    have Q3 := HW.rb
    have CB3 := HW.be
    clear HA HW hr
    clear HH HR HB
    generalize hk : x.k = k at *
    generalize ht : x.t = t at *
    have HKT := hide (And.intro hk ht)
    clear hk ht
    have z2 : w.heap.size + 1 < W.heap.size := (Array.getElem?_eq_some_iff.1 Q3).1
    have r0 : W.cell? ⟨w.heap.size, 0, none⟩ = some (.int .i64 k) := by simp [World.cell?, P3]
    have r1 : W.cell? ⟨w.heap.size, 1, none⟩ = some (.string t) := by simp [World.cell?, P3]
    have r2 : W.cell? ⟨w.heap.size, 2, none⟩ = some (.slice b1 x.l.length d1) := by simp [World.cell?, P3]
    have r3 : W.cell? ⟨w.heap.size, 3, none⟩ = some (.slice b2 x.p.length d2) := by simp [World.cell?, P3]
    have r4 : W.cell? ⟨w.heap.size, 4, none⟩ = some (.slice b3 x.s.length d3) := by simp [World.cell?, P3]
    have s0 : W.cell? ⟨w.heap.size + 1, 0, none⟩ = some (.int .i64 0) := by simp [World.cell?, Q3]
    have s1 : W.cell? ⟨w.heap.size + 1, 1, none⟩ = some (.string ⟨#[]⟩) := by simp [World.cell?, Q3]
    have s2 : W.cell? ⟨w.heap.size + 1, 2, none⟩ = some (.slice none 0 0) := by simp [World.cell?, Q3]
    have s3 : W.cell? ⟨w.heap.size + 1, 3, none⟩ = some (.slice none 0 0) := by simp [World.cell?, Q3]
    have s4 : W.cell? ⟨w.heap.size + 1, 4, none⟩ = some (.slice none 0 0) := by simp [World.cell?, Q3]
    have f0 : W.frozen? ⟨w.heap.size + 1, 0, none⟩ = false := by simp [World.frozen?, Q3]
    have f1 : W.frozen? ⟨w.heap.size + 1, 1, none⟩ = false := by simp [World.frozen?, Q3]
    have f2 : W.frozen? ⟨w.heap.size + 1, 2, none⟩ = false := by simp [World.frozen?, Q3]
    have f3 : W.frozen? ⟨w.heap.size + 1, 3, none⟩ = false := by simp [World.frozen?, Q3]
    have f4 : W.frozen? ⟨w.heap.size + 1, 4, none⟩ = false := by simp [World.frozen?, Q3]
    obtain ⟨W5, hW5⟩ : ∃ W5, (((((W.setCell ⟨w.heap.size + 1, 0, none⟩ (.int .i64 k)).setCell ⟨w.heap.size + 1, 1, none⟩ (.string t)).setCell ⟨w.heap.size + 1, 2, none⟩ (.slice b1 x.l.length d1)).setCell ⟨w.heap.size + 1, 3, none⟩ (.slice b2 x.p.length d2)).setCell ⟨w.heap.size + 1, 4, none⟩ (.slice b3 x.s.length d3)) = W5 := ⟨_, rfl⟩
    have hH : W5.heap[w.heap.size + 1]? = some (.cells #[.int .i64 k, .string t, .slice b1 x.l.length d1, .slice b2 x.p.length d2, .slice b3 x.s.length d3] 28 (0, 0)) := by
      rw [← hW5, (setCell_heapY (setCell_heapY (setCell_heapY (setCell_heapY (setCell_heapY Q3 0 _) 1 _) 2 _) 3 _) 4 _)]; rfl
    have hK : Kept (one (w.heap.size + 1)) W W5 := hW5 ▸ ((((((Kept.refl (one (w.heap.size + 1)) W).set1 0 _).set1 1 _).set1 2 _).set1 3 _).set1 4 _)
    have hB : Below w.heap.size w W5 := hW5 ▸ (((((CB3.setCell (p := ⟨w.heap.size + 1, 0, none⟩) (Nat.le_succ _) _).setCell (p := ⟨w.heap.size + 1, 1, none⟩) (Nat.le_succ _) _).setCell (p := ⟨w.heap.size + 1, 2, none⟩) (Nat.le_succ _) _).setCell (p := ⟨w.heap.size + 1, 3, none⟩) (Nat.le_succ _) _).setCell (p := ⟨w.heap.size + 1, 4, none⟩) (Nat.le_succ _) _)
    have HHH := hide hH
    have HKK := hide hK
    have HBB := hide hB
    have HW5 := hide hW5
    have HO := hide (And.intro o1 (And.intro o2 o3))
    clear hW5 hH hK hB o1 o2 o3 P3 Q3 CB3
    go_wp2_with fail
    rw [HW5.out]
    have p0 : W5.cell? ⟨w.heap.size + 1, 0, none⟩ = some (.int .i64 k) := by simp [World.cell?, HHH.out]
    have p1 : W5.cell? ⟨w.heap.size + 1, 1, none⟩ = some (.string t) := by simp [World.cell?, HHH.out]
    have p2 : W5.cell? ⟨w.heap.size + 1, 2, none⟩ = some (.slice b1 x.l.length d1) := by simp [World.cell?, HHH.out]
    have p3 : W5.cell? ⟨w.heap.size + 1, 3, none⟩ = some (.slice b2 x.p.length d2) := by simp [World.cell?, HHH.out]
    have p4 : W5.cell? ⟨w.heap.size + 1, 4, none⟩ = some (.slice b3 x.s.length d3) := by simp [World.cell?, HHH.out]
    obtain ⟨o1, o2, o3⟩ := HO.out
    refine bodyPost_ret (v := .agg #[.int .i64 k, .string t, .slice b1 x.l.length d1, .slice b2 x.p.length d2, .slice b3 x.s.length d3]) (by simp [results, Tryz.results31, go_sem, p0, p1, p2, p3, p4]) rfl ⟨_, rfl, ⟨b1, d1, b2, d2, b3, d3, by rw [HKT.out.1, HKT.out.2], ?_, ?_, ?_⟩, HBB.out⟩
    · exact row_lowY (HKK.out.owns o1 (fun j hj e => by have := (o1.lt j hj).1; simp only [one] at e; omega)) (by omega)
    · exact row_lowY (HKK.out.owns o2 (fun j hj e => by have := (o2.lt j hj).1; simp only [one] at e; omega)) (by omega)
    · exact row_lowY (HKK.out.owns o3 (fun j hj e => by have := (o3.lt j hj).1; simp only [one] at e; omega)) (by omega)
  · rintro l a W i ⟨b0, b1, b2, b3, b4, b5, b6, b7, b8, b9, b10, b11, b12, b13, b14, b15, b16, b17, u0, u3, u4, u5, u6, u7, u8, u9, u10, u11, u12, u13, u14, u15, u16, u17, u18, y2, y3, y4, rfl, rfl, HA, HW⟩ hi
    have hlt : i < 18 := by
      obtain ⟨-, o, ho, -⟩ := mem_ready.1 hi
      exact (Array.getElem?_eq_some_iff.1 ho).1
    have z2 : w.heap.size + 1 < W.heap.size := (Array.getElem?_eq_some_iff.1 HW.rb).1
    have hcases : i = 0 ∨ i = 1 ∨ i = 2 ∨ i = 3 ∨ i = 4 ∨ i = 5 ∨ i = 6 ∨ i = 7 ∨ i = 8 ∨ i = 9 ∨ i = 10 ∨ i = 11 ∨ i = 12 ∨ i = 13 ∨ i = 14 ∨ i = 15 ∨ i = 16 ∨ i = 17 := by omega
    clear hlt HH HR HB
    rcases hcases with rfl | rfl | rfl | rfl | rfl | rfl | rfl | rfl | rfl | rfl | rfl | rfl | rfl | rfl | rfl | rfl | rfl | rfl
    · have hb : b0 = false := (mem_ready.1 hi).1
      have hb1 : Below W.heap.size W (W.alloc (.cells #[] 9)) := (Below.refl _ W).alloc (Nat.le_refl _) _
      refine wpOp_step rfl (fun K' hK => ?_)
      go_simp
      exact hK _ _ ⟨true, b1, b2, b3, b4, b5, b6, b7, b8, b9, b10, b11, b12, b13, b14, b15, b16, b17, _, _, _, _, _, _, _, _, _, _, _, _, _, _, _, _, _, y2, y3, y4, rfl, rfl, { HA with }, { HW.below hb1 with l3 := fun _ => ⟨W.heap.size, rfl, by omega, allocY_new W _⟩ }⟩
    · have hb : b1 = false := (mem_ready.1 hi).1
      refine wpOp_step rfl (fun K' hK => ?_)
      go_simp
      exact hK _ _ ⟨b0, true, b2, b3, b4, b5, b6, b7, b8, b9, b10, b11, b12, b13, b14, b15, b16, b17, _, _, _, _, _, _, _, _, _, _, _, _, _, _, _, _, _, y2, y3, y4, rfl, rfl, { HA with f4 := fun _ => rfl }, HW⟩
    · have hb : b2 = false := (mem_ready.1 hi).1
      have e1 : b1 = true := ready_dep hi 1 (by kernel_rfl)
      obtain rfl := HA.f4 e1
      have cc : W.cell? ⟨w.heap.size, 2, none⟩ = some (.slice a1 x.l.length c1) := by rw [← HA.y2f hb]; simp [World.cell?, HW.bx]
      have HHA := hide HA
      have HHW := hide HW
      clear HA HW
      refine wpOp_step rfl (fun K' hK => ?_)
      go_simp
      exact hK _ _ ⟨b0, b1, true, b3, b4, b5, b6, b7, b8, b9, b10, b11, b12, b13, b14, b15, b16, b17, _, _, _, _, _, _, _, _, _, _, _, _, _, _, _, _, _, y2, y3, y4, rfl, rfl, { HHA.out with f5 := fun _ => rfl, y2f := fun e => Bool.noConfusion e }, HHW.out⟩
    · have hb : b3 = false := (mem_ready.1 hi).1
      have e0 : b0 = true := ready_dep hi 0 (by kernel_rfl)
      have e2 : b2 = true := ready_dep hi 2 (by kernel_rfl)
      obtain rfl := HA.f5 e2
      obtain ⟨g, rfl, hg1, hg2⟩ := HW.l3 e0
      have HT := H1.out.below HW.be
      have hb0 : b13 = false := by
        cases hq : b13 with
        | false => rfl
        | true => exact absurd (HA.dn13 hq) (by rw [hb]; decide)
      obtain ⟨v', w', hr, ho, hbw⟩ := run_append_lit (P := Tryz.prog) W (w.heap.size + 2) 24 24 9 i1 (.string ⟨#[]⟩) 1 16 Tryz.underlying24 hi1 hz1 hs1 hb1 rfl (by decide) g hg1 hg2 a1 x.l.length c1 (YT.strs x.l) (by simp [YT.strs]) (fun a ha => by
        rcases HT with h | ⟨g, o, h, hc⟩
        · rw [h]; intro j u hj; simp [YT.strs] at hj
        · rw [h] at ha; injection ha with ha; subst ha; exact YT.texts_news hc) (fun ha => by
        rcases HT with h | ⟨g, o, h, hc⟩
        · rw [h]; rfl
        · rw [h] at ha; cases ha) (YT.strs_one _) (by unfold maxLen; omega) (by omega) (by omega)
      refine wpOp_step rfl (fun K' hK => ?_)
      rw [if_pos]
      rotate_left
      · rfl
      refine wp_append_run _ _ _ rfl rfl rfl hr ?_
      exact hK _ _ ⟨b0, b1, b2, true, b4, b5, b6, b7, b8, b9, b10, b11, b12, b13, b14, b15, b16, b17, _, _, _, _, _, _, _, _, _, _, _, _, _, _, _, _, _, y2, y3, y4, rfl, rfl, { HA with s2 := fun e => absurd (hb0.symm.trans e) (by decide), dn13 := fun _ => rfl }, { HW.below hbw with o6 := fun _ => ho }⟩
    · have hb : b4 = false := (mem_ready.1 hi).1
      have hb1 : Below W.heap.size W (W.alloc (.cells #[] 87)) := (Below.refl _ W).alloc (Nat.le_refl _) _
      refine wpOp_step rfl (fun K' hK => ?_)
      go_simp
      exact hK _ _ ⟨b0, b1, b2, b3, true, b5, b6, b7, b8, b9, b10, b11, b12, b13, b14, b15, b16, b17, _, _, _, _, _, _, _, _, _, _, _, _, _, _, _, _, _, y2, y3, y4, rfl, rfl, { HA with }, { HW.below hb1 with l7 := fun _ => ⟨W.heap.size, rfl, by omega, allocY_new W _⟩ }⟩
    · have hb : b5 = false := (mem_ready.1 hi).1
      refine wpOp_step rfl (fun K' hK => ?_)
      go_simp
      exact hK _ _ ⟨b0, b1, b2, b3, b4, true, b6, b7, b8, b9, b10, b11, b12, b13, b14, b15, b16, b17, _, _, _, _, _, _, _, _, _, _, _, _, _, _, _, _, _, y2, y3, y4, rfl, rfl, { HA with f8 := fun _ => rfl }, HW⟩
    · have hb : b6 = false := (mem_ready.1 hi).1
      have e5 : b5 = true := ready_dep hi 5 (by kernel_rfl)
      obtain rfl := HA.f8 e5
      have cc : W.cell? ⟨w.heap.size, 3, none⟩ = some (.slice a2 x.p.length c2) := by rw [← HA.y3f hb]; simp [World.cell?, HW.bx]
      have HHA := hide HA
      have HHW := hide HW
      clear HA HW
      refine wpOp_step rfl (fun K' hK => ?_)
      go_simp
      exact hK _ _ ⟨b0, b1, b2, b3, b4, b5, true, b7, b8, b9, b10, b11, b12, b13, b14, b15, b16, b17, _, _, _, _, _, _, _, _, _, _, _, _, _, _, _, _, _, y2, y3, y4, rfl, rfl, { HHA.out with f9 := fun _ => rfl, y3f := fun e => Bool.noConfusion e }, HHW.out⟩
    · have hb : b7 = false := (mem_ready.1 hi).1
      have e4 : b4 = true := ready_dep hi 4 (by kernel_rfl)
      have e6 : b6 = true := ready_dep hi 6 (by kernel_rfl)
      obtain rfl := HA.f9 e6
      obtain ⟨g, rfl, hg1, hg2⟩ := HW.l7 e4
      have HT := H2.out.below HW.be
      have hb0 : b15 = false := by
        cases hq : b15 with
        | false => rfl
        | true => exact absurd (HA.dn15 hq) (by rw [hb]; decide)
      obtain ⟨v', w', hr, ho, hbw⟩ := run_append_lit (P := Tryz.prog) W (w.heap.size + 2) 25 25 87 i2 (.agg #[.string ⟨#[]⟩, .string ⟨#[]⟩]) 2 32 Tryz.underlying25 hi2 hz2 hs2 hb2 rfl (by decide) g hg1 hg2 a2 x.p.length c2 (YP.rowP x.p) (by rw [YP.rowP_len]) (fun a ha => by
        rcases HT with h | ⟨g, o, h, hc⟩
        · rw [h]; intro j u hj; simp [YP.rowP] at hj
        · rw [h] at ha; injection ha with ha; subst ha; exact YP.pairs_news hc) (fun ha => by
        rcases HT with h | ⟨g, o, h, hc⟩
        · rw [h]; rfl
        · rw [h] at ha; cases ha) (YP.rowP_one _) (by unfold maxLen; omega) (by omega) (by omega)
      refine wpOp_step rfl (fun K' hK => ?_)
      rw [if_pos]
      rotate_left
      · rfl
      refine wp_append_run _ _ _ rfl rfl rfl hr ?_
      exact hK _ _ ⟨b0, b1, b2, b3, b4, b5, b6, true, b8, b9, b10, b11, b12, b13, b14, b15, b16, b17, _, _, _, _, _, _, _, _, _, _, _, _, _, _, _, _, _, y2, y3, y4, rfl, rfl, { HA with s3 := fun e => absurd (hb0.symm.trans e) (by decide), dn15 := fun _ => rfl }, { HW.below hbw with o10 := fun _ => ho }⟩
    · have hb : b8 = false := (mem_ready.1 hi).1
      have hb1 : Below W.heap.size W (W.alloc (.cells #[] 89)) := (Below.refl _ W).alloc (Nat.le_refl _) _
      refine wpOp_step rfl (fun K' hK => ?_)
      go_simp
      exact hK _ _ ⟨b0, b1, b2, b3, b4, b5, b6, b7, true, b9, b10, b11, b12, b13, b14, b15, b16, b17, _, _, _, _, _, _, _, _, _, _, _, _, _, _, _, _, _, y2, y3, y4, rfl, rfl, { HA with }, { HW.below hb1 with l11 := fun _ => ⟨W.heap.size, rfl, by omega, allocY_new W _⟩ }⟩
    · have hb : b9 = false := (mem_ready.1 hi).1
      refine wpOp_step rfl (fun K' hK => ?_)
      go_simp
      exact hK _ _ ⟨b0, b1, b2, b3, b4, b5, b6, b7, b8, true, b10, b11, b12, b13, b14, b15, b16, b17, _, _, _, _, _, _, _, _, _, _, _, _, _, _, _, _, _, y2, y3, y4, rfl, rfl, { HA with f12 := fun _ => rfl }, HW⟩
    · have hb : b10 = false := (mem_ready.1 hi).1
      have e9 : b9 = true := ready_dep hi 9 (by kernel_rfl)
      obtain rfl := HA.f12 e9
      have cc : W.cell? ⟨w.heap.size, 4, none⟩ = some (.slice a3 x.s.length c3) := by rw [← HA.y4f hb]; simp [World.cell?, HW.bx]
      have HHA := hide HA
      have HHW := hide HW
      clear HA HW
      refine wpOp_step rfl (fun K' hK => ?_)
      go_simp
      exact hK _ _ ⟨b0, b1, b2, b3, b4, b5, b6, b7, b8, b9, true, b11, b12, b13, b14, b15, b16, b17, _, _, _, _, _, _, _, _, _, _, _, _, _, _, _, _, _, y2, y3, y4, rfl, rfl, { HHA.out with f13 := fun _ => rfl, y4f := fun e => Bool.noConfusion e }, HHW.out⟩
    · have hb : b11 = false := (mem_ready.1 hi).1
      have e8 : b8 = true := ready_dep hi 8 (by kernel_rfl)
      have e10 : b10 = true := ready_dep hi 10 (by kernel_rfl)
      obtain rfl := HA.f13 e10
      obtain ⟨g, rfl, hg1, hg2⟩ := HW.l11 e8
      have HT := H3.out.below HW.be
      have hb0 : b17 = false := by
        cases hq : b17 with
        | false => rfl
        | true => exact absurd (HA.dn17 hq) (by rw [hb]; decide)
      obtain ⟨v', w', hr, ho, hbw⟩ := run_append_lit (P := Tryz.prog) W (w.heap.size + 2) 26 26 89 i3 (.agg #[.int .i64 0, .string ⟨#[]⟩]) 2 24 Tryz.underlying26 hi3 hz3 hs3 hb3 rfl (by decide) g hg1 hg2 a3 x.s.length c3 (YS.rowP x.s) (by rw [YS.rowP_len]) (fun a ha => by
        rcases HT with h | ⟨g, o, h, hc⟩
        · rw [h]; intro j u hj; simp [YS.rowP] at hj
        · rw [h] at ha; injection ha with ha; subst ha; exact YS.pairs_news hc) (fun ha => by
        rcases HT with h | ⟨g, o, h, hc⟩
        · rw [h]; rfl
        · rw [h] at ha; cases ha) (YS.rowP_one _) (by unfold maxLen; omega) (by omega) (by omega)
      refine wpOp_step rfl (fun K' hK => ?_)
      rw [if_pos]
      rotate_left
      · rfl
      refine wp_append_run _ _ _ rfl rfl rfl hr ?_
      exact hK _ _ ⟨b0, b1, b2, b3, b4, b5, b6, b7, b8, b9, b10, true, b12, b13, b14, b15, b16, b17, _, _, _, _, _, _, _, _, _, _, _, _, _, _, _, _, _, y2, y3, y4, rfl, rfl, { HA with s4 := fun e => absurd (hb0.symm.trans e) (by decide), dn17 := fun _ => rfl }, { HW.below hbw with o14 := fun _ => ho }⟩
    · have hb : b12 = false := (mem_ready.1 hi).1
      refine wpOp_step rfl (fun K' hK => ?_)
      go_simp
      exact hK _ _ ⟨b0, b1, b2, b3, b4, b5, b6, b7, b8, b9, b10, b11, true, b13, b14, b15, b16, b17, _, _, _, _, _, _, _, _, _, _, _, _, _, _, _, _, _, y2, y3, y4, rfl, rfl, { HA with f15 := fun _ => rfl }, HW⟩
    · have hb : b13 = false := (mem_ready.1 hi).1
      have e12 : b12 = true := ready_dep hi 12 (by kernel_rfl)
      have e3 : b3 = true := ready_dep hi 3 (by kernel_rfl)
      have e2 : b2 = true := ready_dep hi 2 (by kernel_rfl)
      obtain rfl := HA.f15 e12
      have ho := HW.o6 e3
      obtain ⟨g1, d1, rfl⟩ := slice_ownY ho
      have cc : W.cell? ⟨w.heap.size, 2, none⟩ = some y2 := by simp [World.cell?, HW.bx]
      have ff : W.frozen? ⟨w.heap.size, 2, none⟩ = false := by simp [World.frozen?, HW.bx]
      have HHA := hide HA
      have HHW := hide HW
      clear HA HW
      refine wpOp_step rfl (fun K' hK => ?_)
      go_simp
      exact hK _ _ ⟨b0, b1, b2, b3, b4, b5, b6, b7, b8, b9, b10, b11, b12, true, b14, b15, b16, b17, _, _, _, _, _, _, _, _, _, _, _, _, _, _, _, _, _, .slice g1 x.l.length d1, y3, y4, rfl, rfl, { HHA.out with s2 := fun _ => rfl, y2f := fun e => absurd (e2.symm.trans e) (by decide), dn13 := fun _ => e3 }, HHW.out.set 2 _⟩
    · have hb : b14 = false := (mem_ready.1 hi).1
      refine wpOp_step rfl (fun K' hK => ?_)
      go_simp
      exact hK _ _ ⟨b0, b1, b2, b3, b4, b5, b6, b7, b8, b9, b10, b11, b12, b13, true, b15, b16, b17, _, _, _, _, _, _, _, _, _, _, _, _, _, _, _, _, _, y2, y3, y4, rfl, rfl, { HA with f16 := fun _ => rfl }, HW⟩
    · have hb : b15 = false := (mem_ready.1 hi).1
      have e14 : b14 = true := ready_dep hi 14 (by kernel_rfl)
      have e7 : b7 = true := ready_dep hi 7 (by kernel_rfl)
      have e6 : b6 = true := ready_dep hi 6 (by kernel_rfl)
      obtain rfl := HA.f16 e14
      have ho := HW.o10 e7
      obtain ⟨g1, d1, rfl⟩ := slice_ownY ho
      have cc : W.cell? ⟨w.heap.size, 3, none⟩ = some y3 := by simp [World.cell?, HW.bx]
      have ff : W.frozen? ⟨w.heap.size, 3, none⟩ = false := by simp [World.frozen?, HW.bx]
      have HHA := hide HA
      have HHW := hide HW
      clear HA HW
      refine wpOp_step rfl (fun K' hK => ?_)
      go_simp
      exact hK _ _ ⟨b0, b1, b2, b3, b4, b5, b6, b7, b8, b9, b10, b11, b12, b13, b14, true, b16, b17, _, _, _, _, _, _, _, _, _, _, _, _, _, _, _, _, _, y2, .slice g1 x.p.length d1, y4, rfl, rfl, { HHA.out with s3 := fun _ => rfl, y3f := fun e => absurd (e6.symm.trans e) (by decide), dn15 := fun _ => e7 }, HHW.out.set 3 _⟩
    · have hb : b16 = false := (mem_ready.1 hi).1
      refine wpOp_step rfl (fun K' hK => ?_)
      go_simp
      exact hK _ _ ⟨b0, b1, b2, b3, b4, b5, b6, b7, b8, b9, b10, b11, b12, b13, b14, b15, true, b17, _, _, _, _, _, _, _, _, _, _, _, _, _, _, _, _, _, y2, y3, y4, rfl, rfl, { HA with f17 := fun _ => rfl }, HW⟩
    · have hb : b17 = false := (mem_ready.1 hi).1
      have e16 : b16 = true := ready_dep hi 16 (by kernel_rfl)
      have e11 : b11 = true := ready_dep hi 11 (by kernel_rfl)
      have e10 : b10 = true := ready_dep hi 10 (by kernel_rfl)
      obtain rfl := HA.f17 e16
      have ho := HW.o14 e11
      obtain ⟨g1, d1, rfl⟩ := slice_ownY ho
      have cc : W.cell? ⟨w.heap.size, 4, none⟩ = some y4 := by simp [World.cell?, HW.bx]
      have ff : W.frozen? ⟨w.heap.size, 4, none⟩ = false := by simp [World.frozen?, HW.bx]
      have HHA := hide HA
      have HHW := hide HW
      clear HA HW
      refine wpOp_step rfl (fun K' hK => ?_)
      go_simp
      exact hK _ _ ⟨b0, b1, b2, b3, b4, b5, b6, b7, b8, b9, b10, b11, b12, b13, b14, b15, b16, true, _, _, _, _, _, _, _, _, _, _, _, _, _, _, _, _, _, y2, y3, .slice g1 x.s.length d1, rfl, rfl, { HHA.out with s4 := fun _ => rfl, y4f := fun e => absurd (e10.symm.trans e) (by decide), dn17 := fun _ => e11 }, HHW.out.set 4 _⟩
  · refine ⟨false, false, false, false, false, false, false, false, false, false, false, false, false, false, false, false, false, false, _, _, _, _, _, _, _, _, _, _, _, _, _, _, _, _, _, .slice a1 x.l.length c1, .slice a2 x.p.length c2, .slice a3 x.s.length c3, rfl, rfl, ?_, ?_⟩
    · constructor <;> first | exact (fun _ => rfl) | exact (fun e => Bool.noConfusion e)
    · exact ⟨HB.drew, HH, HR, fun e => Bool.noConfusion e, fun e => Bool.noConfusion e, fun e => Bool.noConfusion e, fun e => Bool.noConfusion e, fun e => Bool.noConfusion e, fun e => Bool.noConfusion e⟩
  · decide
end Go.Proofs.YtcidoodaiimhfaaGreat

/- What the walk of RestItems leans on. -/
namespace Go.Proofs.YtcidoodaiimhfaaGreat
open Go.RowKit

theorem newboxQ (w : World) (o : Obj) : ∃ V, w.alloc o = V ∧ Below w.heap.size w V ∧ V.heap[w.heap.size]? = some o := ⟨_, rfl, (Below.refl _ w).alloc (Nat.le_refl _) _, allocY_new w _⟩
theorem bQ {A B C : World} (h : Below A.heap.size A B) (k : Below B.heap.size B C) : Below A.heap.size A C := h.trans (k.mono h.size)
/-- an item's value -/
structure SV where
  k : Int
  t : ByteArray
  a1 : Option Addr
  n1 : Nat
  c1 : Nat
  a2 : Option Addr
  n2 : Nat
  c2 : Nat
  a3 : Option Addr
  n3 : Nat
  c3 : Nat
/-- it may be spoilt: its lists are memory from a block on that may be written to -/
structure Spo (B : Nat) (w : World) (s : SV) : Prop where
  w1 : Wet B w.heap.size w s.a1 s.n1
  w2 : Wet B w.heap.size w s.a2 (s.n2 * 2)
  w3 : Wet B w.heap.size w s.a3 (s.n3 * 2)
  m1 : s.n1 ≤ 281474976710656
  m2 : s.n2 ≤ 281474976710656
  m3 : s.n3 ≤ 281474976710656
theorem Spo.later {B C : Nat} {w w' : World} {s : SV} (h : Spo B w s) (hb : Below w.heap.size w w') (hC : C ≤ B) : Spo C w' s :=
  ⟨(h.w1.soft (Soft.below hb)).wide hC hb.size, (h.w2.soft (Soft.below hb)).wide hC hb.size, (h.w3.soft (Soft.below hb)).wide hC hb.size, h.m1, h.m2, h.m3⟩
/-- texts that may be spoilt -/
def SpoT (B : Nat) (w : World) (a : Option Addr) (n : Nat) : Prop := Wet B w.heap.size w a n ∧ n ≤ 281474976710656
theorem SpoT.later {B C : Nat} {w w' : World} {a : Option Addr} {n : Nat} (h : SpoT B w a n) (hb : Below w.heap.size w w') (hC : C ≤ B) : SpoT C w' a n :=
  ⟨(h.1.soft (Soft.below hb)).wide hC hb.size, h.2⟩
theorem ItemOwn.sv {B : Nat} {w : World} {u : Value} {y : Itm} (h : ItemOwn B w u y) : ∃ s : SV, u = .agg #[.int .i64 s.k, .string s.t, .slice s.a1 s.n1 s.c1, .slice s.a2 s.n2 s.c2, .slice s.a3 s.n3 s.c3] ∧ Spo B w s := by
  obtain ⟨a1, c1, a2, c2, a3, c3, rfl, -, -, -⟩ := h.is.ex
  obtain ⟨h1, h2, h3⟩ := h.wet
  exact ⟨⟨y.k, y.t, a1, y.l.length, c1, a2, y.p.length, c2, a3, y.s.length, c3⟩, rfl, h1, h2, h3, h.is.ll, h.is.pl, h.is.sl⟩
theorem ItemIs.sv {w : World} {u : Value} {y : Itm} (h : ItemIs w u y) : ∃ s : SV, u = .agg #[.int .i64 s.k, .string s.t, .slice s.a1 s.n1 s.c1, .slice s.a2 s.n2 s.c2, .slice s.a3 s.n3 s.c3] := by
  obtain ⟨a1, c1, a2, c2, a3, c3, rfl, -, -, -⟩ := h.ex
  exact ⟨⟨y.k, y.t, a1, y.l.length, c1, a2, y.p.length, c2, a3, y.s.length, c3⟩, rfl⟩
theorem OwnItem.isOf {B : Nat} {w w0 : World} {v v0 : Value} {x : Itm} (h : OwnItem B w v x) (h0 : ItemIs w0 v0 x) : ∃ a1 c1 a2 c2 a3 c3, v = .agg #[.int .i64 x.k, .string x.t, .slice a1 x.l.length c1, .slice a2 x.p.length c2, .slice a3 x.s.length c3] ∧ ItemIs w (.agg #[.int .i64 x.k, .string x.t, .slice a1 x.l.length c1, .slice a2 x.p.length c2, .slice a3 x.s.length c3]) x := by
  obtain ⟨a1, c1, a2, c2, a3, c3, e, h1, h2, h3⟩ := h
  exact ⟨a1, c1, a2, c2, a3, c3, e, ⟨a1, c1, a2, c2, a3, c3, rfl, textsY h1, pairsY h2, scoresY h3⟩, h0.tz, h0.lz, h0.pz, h0.sz, h0.ll, h0.pl, h0.sl⟩
def CCp (x : Itm) : Prop := ∀ (W : World) (a1 a2 a3 : Option Addr) (c1 c2 c3 : Nat), ItemIs W (.agg #[.int .i64 x.k, .string x.t, .slice a1 x.l.length c1, .slice a2 x.p.length c2, .slice a3 x.s.length c3]) x → Calls Tryz.prog 31 #[.agg #[.int .i64 x.k, .string x.t, .slice a1 x.l.length c1, .slice a2 x.p.length c2, .slice a3 x.s.length c3]] W fun e w' => (∃ i1 j1 i2 j2 i3 j3, e = .returned (.agg #[.int .i64 x.k, .string x.t, .slice i1 x.l.length j1, .slice i2 x.p.length j2, .slice i3 x.s.length j3]) ∧ ItemIs w' (.agg #[.int .i64 x.k, .string x.t, .slice i1 x.l.length j1, .slice i2 x.p.length j2, .slice i3 x.s.length j3]) x) ∧ Below W.heap.size W w'
def CPo (x : Itm)(l : List ByteArray) (E : Int) (Y : Itm) : Prop := ∀ (W : World) (a1 a2 a3 : Option Addr) (c1 c2 c3 : Nat) (al : Option Addr) (cl : Nat), ItemIs W (.agg #[.int .i64 x.k, .string x.t, .slice a1 x.l.length c1, .slice a2 x.p.length c2, .slice a3 x.s.length c3]) x → TextsAt W al l → Calls Tryz.prog 32 #[.agg #[.int .i64 x.k, .string x.t, .slice a1 x.l.length c1, .slice a2 x.p.length c2, .slice a3 x.s.length c3], .bool true, .slice al l.length cl] W fun e w' => (∃ (s : SV) (n : Int), e = .returned (.tuple #[.agg #[.int .i64 s.k, .string s.t, .slice s.a1 s.n1 s.c1, .slice s.a2 s.n2 s.c2, .slice s.a3 s.n3 s.c3], .int .i64 n, .int .i64 E]) ∧ ItemIs w' (.agg #[.int .i64 s.k, .string s.t, .slice s.a1 s.n1 s.c1, .slice s.a2 s.n2 s.c2, .slice s.a3 s.n3 s.c3]) Y) ∧ Below W.heap.size W w'
def CPu (x : Itm)(l : List ByteArray) (E : Int) (Y : Itm) : Prop := ∀ (W : World) (i1 i2 i3 : Option Addr) (j1 j2 j3 : Nat) (al : Option Addr) (cl : Nat), ItemIs W (.agg #[.int .i64 x.k, .string x.t, .slice i1 x.l.length j1, .slice i2 x.p.length j2, .slice i3 x.s.length j3]) x → TextsAt W al l → Calls Tryz.prog 33 #[.agg #[.int .i64 x.k, .string x.t, .slice i1 x.l.length j1, .slice i2 x.p.length j2, .slice i3 x.s.length j3], .bool true, .slice al l.length cl] W fun e w' => (∃ (s : SV) (n : Int), e = .returned (.tuple #[.agg #[.int .i64 s.k, .string s.t, .slice s.a1 s.n1 s.c1, .slice s.a2 s.n2 s.c2, .slice s.a3 s.n3 s.c3], .int .i64 n, .int .i64 E]) ∧ Spo W.heap.size w' s ∧ ItemIs w' (.agg #[.int .i64 s.k, .string s.t, .slice s.a1 s.n1 s.c1, .slice s.a2 s.n2 s.c2, .slice s.a3 s.n3 s.c3]) Y) ∧ Below W.heap.size W w'
def CPop (x : Itm) : Prop := ∀ (W : World) (i1 i2 i3 : Option Addr) (j1 j2 j3 : Nat), ItemIs W (.agg #[.int .i64 x.k, .string x.t, .slice i1 x.l.length j1, .slice i2 x.p.length j2, .slice i3 x.s.length j3]) x → Calls Tryz.prog 34 #[.agg #[.int .i64 x.k, .string x.t, .slice i1 x.l.length j1, .slice i2 x.p.length j2, .slice i3 x.s.length j3], .bool false] W fun e w' => (∃ (s : SV) (n : ByteArray) (m : Int), e = .returned (.tuple #[.agg #[.int .i64 s.k, .string s.t, .slice s.a1 s.n1 s.c1, .slice s.a2 s.n2 s.c2, .slice s.a3 s.n3 s.c3], .string n, .int .i64 m]) ∧ Spo W.heap.size w' s) ∧ Below W.heap.size W w'
def CTrim (x : Itm) : Prop := ∀ (W : World) (i1 i2 i3 : Option Addr) (j1 j2 j3 : Nat), ItemIs W (.agg #[.int .i64 x.k, .string x.t, .slice i1 x.l.length j1, .slice i2 x.p.length j2, .slice i3 x.s.length j3]) x → Calls Tryz.prog 35 #[.agg #[.int .i64 x.k, .string x.t, .slice i1 x.l.length j1, .slice i2 x.p.length j2, .slice i3 x.s.length j3], .int .i64 0, .int .i64 (-1)] W fun e w' => (∃ (s : SV) (m : Int), e = .returned (.tuple #[.agg #[.int .i64 s.k, .string s.t, .slice s.a1 s.n1 s.c1, .slice s.a2 s.n2 s.c2, .slice s.a3 s.n3 s.c3], .int .i64 m]) ∧ Spo W.heap.size w' s) ∧ Below W.heap.size W w'
def CRem (x : Itm) : Prop := ∀ (W : World) (i1 i2 i3 : Option Addr) (j1 j2 j3 : Nat), ItemIs W (.agg #[.int .i64 x.k, .string x.t, .slice i1 x.l.length j1, .slice i2 x.p.length j2, .slice i3 x.s.length j3]) x → Calls Tryz.prog 36 #[.agg #[.int .i64 x.k, .string x.t, .slice i1 x.l.length j1, .slice i2 x.p.length j2, .slice i3 x.s.length j3], .string ⟨#[97]⟩] W fun e w' => (∃ (s : SV) (n m : Int), e = .returned (.tuple #[.agg #[.int .i64 s.k, .string s.t, .slice s.a1 s.n1 s.c1, .slice s.a2 s.n2 s.c2, .slice s.a3 s.n3 s.c3], .int .i64 n, .int .i64 m]) ∧ Spo W.heap.size w' s) ∧ Below W.heap.size W w'
def CRng (x : Itm) : Prop := ∀ (W : World) (i1 i2 i3 : Option Addr) (j1 j2 j3 : Nat), ItemIs W (.agg #[.int .i64 x.k, .string x.t, .slice i1 x.l.length j1, .slice i2 x.p.length j2, .slice i3 x.s.length j3]) x → Calls Tryz.prog 37 #[.agg #[.int .i64 x.k, .string x.t, .slice i1 x.l.length j1, .slice i2 x.p.length j2, .slice i3 x.s.length j3], .int .i64 0, .int .i64 (-1)] W fun e w' => (∃ (a : Option Addr) (n c : Nat) (m : Int), e = .returned (.tuple #[.slice a n c, .int .i64 m]) ∧ SpoT W.heap.size w' a n) ∧ Below W.heap.size W w'
def CSa (x : Itm)(l : List ByteArray) : Prop := ∀ (W : World) (i1 i2 i3 : Option Addr) (j1 j2 j3 : Nat) (al : Option Addr) (cl : Nat), ItemIs W (.agg #[.int .i64 x.k, .string x.t, .slice i1 x.l.length j1, .slice i2 x.p.length j2, .slice i3 x.s.length j3]) x → TextsAt W al l → Calls Tryz.prog 38 #[.agg #[.int .i64 x.k, .string x.t, .slice i1 x.l.length j1, .slice i2 x.p.length j2, .slice i3 x.s.length j3], .slice al l.length cl] W fun e w' => (∃ (s : SV) (n m : Int), e = .returned (.tuple #[.agg #[.int .i64 s.k, .string s.t, .slice s.a1 s.n1 s.c1, .slice s.a2 s.n2 s.c2, .slice s.a3 s.n3 s.c3], .int .i64 n, .int .i64 m]) ∧ Spo W.heap.size w' s) ∧ Below W.heap.size W w'
def CSr (x : Itm)(l : List ByteArray) : Prop := ∀ (W : World) (i1 i2 i3 : Option Addr) (j1 j2 j3 : Nat) (al : Option Addr) (cl : Nat), ItemIs W (.agg #[.int .i64 x.k, .string x.t, .slice i1 x.l.length j1, .slice i2 x.p.length j2, .slice i3 x.s.length j3]) x → TextsAt W al l → Calls Tryz.prog 39 #[.agg #[.int .i64 x.k, .string x.t, .slice i1 x.l.length j1, .slice i2 x.p.length j2, .slice i3 x.s.length j3], .slice al l.length cl] W fun e w' => (∃ (s : SV) (n m : Int), e = .returned (.tuple #[.agg #[.int .i64 s.k, .string s.t, .slice s.a1 s.n1 s.c1, .slice s.a2 s.n2 s.c2, .slice s.a3 s.n3 s.c3], .int .i64 n, .int .i64 m]) ∧ Spo W.heap.size w' s) ∧ Below W.heap.size W w'
def CMe (x : Itm) : Prop := ∀ (W : World) (g : Nat) (i1 i2 i3 : Option Addr) (j1 j2 j3 : Nat), ItemIs W (.agg #[.int .i64 x.k, .string x.t, .slice i1 x.l.length j1, .slice i2 x.p.length j2, .slice i3 x.s.length j3]) x → W.heap[g]? = some (.cells #[.int .i64 x.k, .string x.t, .slice i1 x.l.length j1, .slice i2 x.p.length j2, .slice i3 x.s.length j3, .int .i64 x.k, .string x.t, .slice i1 x.l.length j1, .slice i2 x.p.length j2, .slice i3 x.s.length j3] 28 (0, 0)) → Calls Tryz.prog 40 #[.slice (some ⟨g, 0, none⟩) 2 2] W fun e w' => (∃ (a : Option Addr) (n c : Nat) (m : Int), e = .returned (.tuple #[.slice a n c, .int .i64 m]) ∧ SpoT W.heap.size w' a n) ∧ Below W.heap.size W w'
def CJo (x : Itm) : Prop := ∀ (W : World) (g : Nat) (i1 i2 i3 : Option Addr) (j1 j2 j3 : Nat), ItemIs W (.agg #[.int .i64 x.k, .string x.t, .slice i1 x.l.length j1, .slice i2 x.p.length j2, .slice i3 x.s.length j3]) x → W.heap[g]? = some (.cells #[.int .i64 x.k, .string x.t, .slice i1 x.l.length j1, .slice i2 x.p.length j2, .slice i3 x.s.length j3] 28 (0, 0)) → Calls Tryz.prog 41 #[.slice (some ⟨g, 0, none⟩) 1 1] W fun e w' => (∃ (a : Option Addr) (n c : Nat) (m : Int), e = .returned (.tuple #[.slice a n c, .int .i64 m]) ∧ SpoT W.heap.size w' a n) ∧ Below W.heap.size W w'
def CHp (x : Itm)(p : List (ByteArray × ByteArray)) : Prop := ∀ (W : World) (i1 i2 i3 : Option Addr) (j1 j2 j3 : Nat) (al : Option Addr) (cl : Nat), ItemIs W (.agg #[.int .i64 x.k, .string x.t, .slice i1 x.l.length j1, .slice i2 x.p.length j2, .slice i3 x.s.length j3]) x → PairsAt W al p → Calls Tryz.prog 42 #[.agg #[.int .i64 x.k, .string x.t, .slice i1 x.l.length j1, .slice i2 x.p.length j2, .slice i3 x.s.length j3], .slice al p.length cl] W fun e w' => (∃ (s : SV) (n m : Int), e = .returned (.tuple #[.agg #[.int .i64 s.k, .string s.t, .slice s.a1 s.n1 s.c1, .slice s.a2 s.n2 s.c2, .slice s.a3 s.n3 s.c3], .int .i64 n, .int .i64 m]) ∧ Spo W.heap.size w' s) ∧ Below W.heap.size W w'
def CHd (x : Itm)(l : List ByteArray) : Prop := ∀ (W : World) (i1 i2 i3 : Option Addr) (j1 j2 j3 : Nat) (al : Option Addr) (cl : Nat), ItemIs W (.agg #[.int .i64 x.k, .string x.t, .slice i1 x.l.length j1, .slice i2 x.p.length j2, .slice i3 x.s.length j3]) x → TextsAt W al l → Calls Tryz.prog 43 #[.agg #[.int .i64 x.k, .string x.t, .slice i1 x.l.length j1, .slice i2 x.p.length j2, .slice i3 x.s.length j3], .slice al l.length cl] W fun e w' => (∃ (s : SV) (n m : Int), e = .returned (.tuple #[.agg #[.int .i64 s.k, .string s.t, .slice s.a1 s.n1 s.c1, .slice s.a2 s.n2 s.c2, .slice s.a3 s.n3 s.c3], .int .i64 n, .int .i64 m]) ∧ Spo W.heap.size w' s) ∧ Below W.heap.size W w'
def CZp (x : Itm)(q : List (Int × ByteArray)) : Prop := ∀ (W : World) (i1 i2 i3 : Option Addr) (j1 j2 j3 : Nat) (al : Option Addr) (cl : Nat), ItemIs W (.agg #[.int .i64 x.k, .string x.t, .slice i1 x.l.length j1, .slice i2 x.p.length j2, .slice i3 x.s.length j3]) x → ScoresAt W al q → Calls Tryz.prog 44 #[.agg #[.int .i64 x.k, .string x.t, .slice i1 x.l.length j1, .slice i2 x.p.length j2, .slice i3 x.s.length j3], .slice al q.length cl] W fun e w' => (∃ (s : SV) (n m : Int), e = .returned (.tuple #[.agg #[.int .i64 s.k, .string s.t, .slice s.a1 s.n1 s.c1, .slice s.a2 s.n2 s.c2, .slice s.a3 s.n3 s.c3], .int .i64 n, .int .i64 m]) ∧ Spo W.heap.size w' s) ∧ Below W.heap.size W w'
def CZd (x : Itm)(l : List ByteArray) : Prop := ∀ (W : World) (i1 i2 i3 : Option Addr) (j1 j2 j3 : Nat) (al : Option Addr) (cl : Nat), ItemIs W (.agg #[.int .i64 x.k, .string x.t, .slice i1 x.l.length j1, .slice i2 x.p.length j2, .slice i3 x.s.length j3]) x → TextsAt W al l → Calls Tryz.prog 45 #[.agg #[.int .i64 x.k, .string x.t, .slice i1 x.l.length j1, .slice i2 x.p.length j2, .slice i3 x.s.length j3], .slice al l.length cl] W fun e w' => (∃ (s : SV) (n m : Int), e = .returned (.tuple #[.agg #[.int .i64 s.k, .string s.t, .slice s.a1 s.n1 s.c1, .slice s.a2 s.n2 s.c2, .slice s.a3 s.n3 s.c3], .int .i64 n, .int .i64 m]) ∧ Spo W.heap.size w' s) ∧ Below W.heap.size W w'
def CZr (x : Itm) : Prop := ∀ (W : World) (i1 i2 i3 : Option Addr) (j1 j2 j3 : Nat), ItemIs W (.agg #[.int .i64 x.k, .string x.t, .slice i1 x.l.length j1, .slice i2 x.p.length j2, .slice i3 x.s.length j3]) x → Calls Tryz.prog 46 #[.agg #[.int .i64 x.k, .string x.t, .slice i1 x.l.length j1, .slice i2 x.p.length j2, .slice i3 x.s.length j3], .int .i64 0, .int .i64 (-1)] W fun e w' => (∃ (a : Option Addr) (n c : Nat) (m : Int), e = .returned (.tuple #[.slice a n c, .int .i64 m]) ∧ SpoT W.heap.size w' a n) ∧ Below W.heap.size W w'
def CEn (x : Itm) : Prop := ∀ (W : World) (i1 i2 i3 : Option Addr) (j1 j2 j3 : Nat), ItemIs W (.agg #[.int .i64 x.k, .string x.t, .slice i1 x.l.length j1, .slice i2 x.p.length j2, .slice i3 x.s.length j3]) x → Calls Tryz.prog 47 #[.agg #[.int .i64 x.k, .string x.t, .slice i1 x.l.length j1, .slice i2 x.p.length j2, .slice i3 x.s.length j3]] W fun e w' => (∃ (s : ByteArray) (m : Int), e = .returned (.tuple #[.string s, .int .i64 m]) ∧ s.size ≤ 281474976710656) ∧ Below W.heap.size W w'
def CDe  : Prop := ∀ (W : World) (s : ByteArray), s.size ≤ 281474976710656 → Calls Tryz.prog 48 #[.string s] W fun e w' => (∃ (s : SV) (m : Int), e = .returned (.tuple #[.agg #[.int .i64 s.k, .string s.t, .slice s.a1 s.n1 s.c1, .slice s.a2 s.n2 s.c2, .slice s.a3 s.n3 s.c3], .int .i64 m]) ∧ Spo W.heap.size w' s) ∧ Below W.heap.size W w'
def CSm  : Prop := ∀ (W : World) (v u : Value) (y : Itm), ItemIs W v y → ItemIs W u y → Calls Tryz.prog 22 #[v, u] W fun e w' => e = .returned (.bool true) ∧ Below W.heap.size W w'
def CSt (l : List ByteArray) : Prop := ∀ (W : World) (a b : Option Addr) (c d : Nat), TextsAt W a l → TextsAt W b l → Calls Tryz.prog 24 #[.slice a l.length c, .slice b l.length d] W fun e w' => e = .returned (.bool true) ∧ Below W.heap.size W w'
def CB1  : Prop := ∀ W : World, Calls Tryz.prog 26 #[] W fun e w' => e = .returned (.bool true) ∧ Below W.heap.size W w'
def CB2  : Prop := ∀ W : World, Calls Tryz.prog 27 #[] W fun e w' => e = .returned (.bool true) ∧ Below W.heap.size W w'
def CB3  : Prop := ∀ W : World, Calls Tryz.prog 28 #[] W fun e w' => e = .returned (.bool true) ∧ Below W.heap.size W w'
def CB4  : Prop := ∀ W : World, Calls Tryz.prog 29 #[] W fun e w' => e = .returned (.bool true) ∧ Below W.heap.size W w'
def CB5  : Prop := ∀ W : World, Calls Tryz.prog 30 #[] W fun e w' => e = .returned (.bool true) ∧ Below W.heap.size W w'
def CSi  : Prop := ∀ (W : World) (B C : Nat) (s : SV), Wet B C W s.a1 s.n1 → Wet B C W s.a2 (s.n2 * 2) → Wet B C W s.a3 (s.n3 * 2) → s.n1 ≤ 281474976710656 → s.n2 ≤ 281474976710656 → s.n3 ≤ 281474976710656 → Calls Tryz.prog 49 #[.agg #[.int .i64 s.k, .string s.t, .slice s.a1 s.n1 s.c1, .slice s.a2 s.n2 s.c2, .slice s.a3 s.n3 s.c3]] W fun e w' => e = .returned (.tuple #[]) ∧ Kept (rg B C) W w' ∧ Soft W w'
def CSx  : Prop := ∀ (W : World) (B C : Nat) (a : Option Addr) (c n : Nat), Wet B C W a n → n ≤ 281474976710656 → Calls Tryz.prog 50 #[.slice a n c] W fun e w' => e = .returned (.tuple #[]) ∧ Kept (rg B C) W w' ∧ Soft W w'
end Go.Proofs.YtcidoodaiimhfaaGreat

/- WALK of RestItems, over what it calls. -/
namespace Go.Proofs.YtcidoodaiimhfaaGreat
open Go.RowKit

set_option maxRecDepth 100000 in
set_option maxHeartbeats 40000000 in
theorem restItems_go (x : Itm) (l : List ByteArray) (p : List (ByteArray × ByteArray)) (q : List (Int × ByteArray)) (E : Int) (Y z : Itm) (w : World) (a1 a2 a3 al ap aq : Option Addr) (c1 c2 c3 cl cp cq : Nat) (IX : ItemIs w (.agg #[.int .i64 x.k, .string x.t, .slice a1 x.l.length c1, .slice a2 x.p.length c2, .slice a3 x.s.length c3]) x) (TL : TextsAt w al l) (PP : PairsAt w ap p) (QQ : ScoresAt w aq q) (hl : l.length ≤ 1500000) (hp : p.length ≤ 1500000) (hq : q.length ≤ 1500000)
    (HZ : ∀ (W : World) (a b : Option Addr) (c d : Nat), PairsAt W a p → ScoresAt W b q → ItemIs W (.agg #[.int .i64 0, .string ⟨#[]⟩, .slice none 0 0, .slice a p.length c, .slice b q.length d]) z)
    (HCp : CCp x) (HPo : CPo x l E Y) (HPu : CPu x l E Y) (HPop : CPop x) (HTrim : CTrim x) (HRem : CRem x) (HRng : CRng x) (HSa : CSa x l) (HSr : CSr x l) (HMe : CMe x) (HJo : CJo x) (HHp : CHp x p) (HHd : CHd x l) (HZp : CZp x q) (HZd : CZd x l) (HZr : CZr x) (HEn : CEn x) (HDe : CDe) (HSm : CSm) (HSt : CSt l) (HB1 : CB1) (HB2 : CB2) (HB3 : CB3) (HB4 : CB4) (HB5 : CB5) (HSi : CSi) (HSx : CSx) :
    Calls Tryz.prog 5 #[.agg #[.int .i64 x.k, .string x.t, .slice a1 x.l.length c1, .slice a2 x.p.length c2, .slice a3 x.s.length c3], .slice al l.length cl, .slice ap p.length cp, .slice aq q.length cq] w fun e w' => e = .returned (.bool true) ∧ Below w.heap.size w w' := by
  obtain ⟨Vw0, hVw0, AVw0, BX⟩ := newboxQ w (.cells #[.int .i64 x.k, .string x.t, .slice a1 x.l.length c1, .slice a2 x.p.length c2, .slice a3 x.s.length c3] 28)
  go_enter Tryz.func5, Tryz.ntmps5
  go_wp2_with fail
  refine (HB1 Vw0).mono ?_
  rintro e w1 ⟨rfl, bw1⟩
  clear hVw0
  go_wp2_with fail
  refine (HB2 w1).mono ?_
  rintro e w2 ⟨rfl, bw2⟩
  go_wp2_with fail
  refine (HB3 w2).mono ?_
  rintro e w3 ⟨rfl, bw3⟩
  go_wp2_with fail
  refine (HB4 w3).mono ?_
  rintro e w4 ⟨rfl, bw4⟩
  go_wp2_with fail
  refine (HB5 w4).mono ?_
  rintro e w5 ⟨rfl, bw5⟩
  have xh := ((bQ (bQ (bQ (bQ bw1 bw2) bw3) bw4) bw5).block _ (Array.getElem?_eq_some_iff.1 BX).1).trans BX
  have x0 : w5.cell? ⟨w.heap.size, 0, none⟩ = some (.int .i64 x.k) := by simp [World.cell?, xh]
  have x1 : w5.cell? ⟨w.heap.size, 1, none⟩ = some (.string x.t) := by simp [World.cell?, xh]
  have x2 : w5.cell? ⟨w.heap.size, 2, none⟩ = some (.slice a1 x.l.length c1) := by simp [World.cell?, xh]
  have x3 : w5.cell? ⟨w.heap.size, 3, none⟩ = some (.slice a2 x.p.length c2) := by simp [World.cell?, xh]
  have x4 : w5.cell? ⟨w.heap.size, 4, none⟩ = some (.slice a3 x.s.length c3) := by simp [World.cell?, xh]
  have cw1 := bQ AVw0 bw1
  have cw2 := bQ cw1 bw2
  have cw3 := bQ cw2 bw3
  have cw4 := bQ cw3 bw4
  have cw5 := bQ cw4 bw5
  go_wp2_with fail
  refine (HCp w5 _ _ _ _ _ _ (IX.below cw5)).mono ?_
  rintro e w6 ⟨⟨i1, j1, i2, j2, i3, j3, rfl, II⟩, bw6⟩
  clear xh x0 x1 x2 x3 x4
  obtain ⟨Vw7, hVw7, AVw7, BL⟩ := newboxQ w6 (.cells #[] 9)
  have HO : Vw7.ownsRow w6.heap.size 9 1 (.slice (some ⟨w6.heap.size, 0, none⟩) 0 0) 0 [] := hVw7 ▸ World.ownsRow_lit w6 #[] 0 (Nat.le_refl _) (Nat.zero_le _) rfl
  have cw6 := bQ cw5 bw6
  have HT := TL.below (bQ cw6 AVw7)
  go_wp2_with (at_builtin; refine YT.wpList_append_texts rfl _ _ rfl w6.heap.size _ 0 [] rfl HO al cl l rfl HT (by omega) AVw7.size ?_)
  intro v w8 ho hg
  have bw8 : Below w6.heap.size w6 w8 := AVw7.grown hg AVw7.size (fun j hj => (HO.lt j hj).1)
  obtain ⟨bw, dw, rfl⟩ := slice_ownY ho
  have TL2 : TextsAt w8 bw l := textsY ho
  clear ho hg HO HT hVw7 AVw7 BL
  obtain ⟨Vw9, hVw9, AVw9, BP⟩ := newboxQ w8 (.cells #[] 87)
  have HO : Vw9.ownsRow w8.heap.size 87 2 (.slice (some ⟨w8.heap.size, 0, none⟩) 0 0) 0 [] := hVw9 ▸ World.ownsRow_lit w8 #[] 0 (Nat.le_refl _) (Nat.zero_le _) rfl
  have cw8 := bQ cw6 bw8
  have HT := PP.below (bQ cw8 AVw9)
  go_wp2_with (at_builtin; refine YP.wpList_append_pairs rfl _ _ rfl w8.heap.size _ 0 [] rfl HO ap cp p rfl HT (by omega) AVw9.size ?_)
  intro v w10 ho hg
  have bw10 : Below w8.heap.size w8 w10 := AVw9.grown hg AVw9.size (fun j hj => (HO.lt j hj).1)
  obtain ⟨bp, dp, rfl⟩ := slice_ownY ho
  have TP : PairsAt w10 bp p := pairsY ho
  clear ho hg HO HT hVw9 AVw9 BP
  obtain ⟨Vw11, hVw11, AVw11, BQ⟩ := newboxQ w10 (.cells #[] 89)
  have HO : Vw11.ownsRow w10.heap.size 89 2 (.slice (some ⟨w10.heap.size, 0, none⟩) 0 0) 0 [] := hVw11 ▸ World.ownsRow_lit w10 #[] 0 (Nat.le_refl _) (Nat.zero_le _) rfl
  have cw10 := bQ cw8 bw10
  have HT := QQ.below (bQ cw10 AVw11)
  go_wp2_with (at_builtin; refine YS.wpList_append_pairs rfl _ _ rfl w10.heap.size _ 0 [] rfl HO aq cq q rfl HT (by omega) AVw11.size ?_)
  intro v w12 ho hg
  have bw12 : Below w10.heap.size w10 w12 := AVw11.grown hg AVw11.size (fun j hj => (HO.lt j hj).1)
  obtain ⟨bq, dq, rfl⟩ := slice_ownY ho
  have TQ : ScoresAt w12 bq q := scoresY ho
  clear ho hg HO HT hVw11 AVw11 BQ
  obtain ⟨Vw13, hVw13, AVw13, BI⟩ := newboxQ w12 (.cells #[.int .i64 x.k, .string x.t, .slice i1 x.l.length j1, .slice i2 x.p.length j2, .slice i3 x.s.length j3] 28)
  have xh := ((bQ (bQ (bQ (bQ (bQ (bQ (bQ (bQ (bQ bw1 bw2) bw3) bw4) bw5) bw6) bw8) bw10) bw12) AVw13).block _ (Array.getElem?_eq_some_iff.1 BX).1).trans BX
  have x0 : Vw13.cell? ⟨w.heap.size, 0, none⟩ = some (.int .i64 x.k) := by simp [World.cell?, xh]
  have x1 : Vw13.cell? ⟨w.heap.size, 1, none⟩ = some (.string x.t) := by simp [World.cell?, xh]
  have x2 : Vw13.cell? ⟨w.heap.size, 2, none⟩ = some (.slice a1 x.l.length c1) := by simp [World.cell?, xh]
  have x3 : Vw13.cell? ⟨w.heap.size, 3, none⟩ = some (.slice a2 x.p.length c2) := by simp [World.cell?, xh]
  have x4 : Vw13.cell? ⟨w.heap.size, 4, none⟩ = some (.slice a3 x.s.length c3) := by simp [World.cell?, xh]
  have cw12 := bQ cw10 bw12
  have cVw13 := bQ cw12 AVw13
  go_wp2_with fail
  refine (HPo Vw13 _ _ _ _ _ _ _ _ (IX.below cVw13) (TL.below cVw13)).mono ?_
  rintro e w14 ⟨⟨sw, nw, rfl, IW⟩, bw14⟩
  clear hVw13 xh x0 x1 x2 x3 x4
  obtain ⟨Vw15, hVw15, AVw15, BW⟩ := newboxQ w14 (.cells #[.int .i64 sw.k, .string sw.t, .slice sw.a1 sw.n1 sw.c1, .slice sw.a2 sw.n2 sw.c2, .slice sw.a3 sw.n3 sw.c3] 28)
  have cw14 := bQ cVw13 bw14
  have cVw15 := bQ cw14 AVw15
  have fIX := IX.below cVw15
  have fTL := TL.below cVw15
  have fPP := PP.below cVw15
  have fQQ := QQ.below cVw15
  have fII := II.below (bQ (bQ (bQ (bQ (bQ bw8 bw10) bw12) AVw13) bw14) AVw15)
  have fTW := TL2.below (bQ (bQ (bQ (bQ bw10 bw12) AVw13) bw14) AVw15)
  have fTP := TP.below (bQ (bQ (bQ bw12 AVw13) bw14) AVw15)
  have fTQ := TQ.below (bQ (bQ AVw13 bw14) AVw15)
  have fIW := IW.below AVw15
  have fBX := ((bQ (bQ (bQ (bQ (bQ (bQ (bQ (bQ (bQ (bQ (bQ bw1 bw2) bw3) bw4) bw5) bw6) bw8) bw10) bw12) AVw13) bw14) AVw15).block _ (Array.getElem?_eq_some_iff.1 BX).1).trans BX
  have fBI := ((bQ bw14 AVw15).block _ (Array.getElem?_eq_some_iff.1 BI).1).trans BI
  have fBW := BW
  have cW0 := cVw15
  go_wp2_with fail
  go_loopw [16] (fun iv wr => ∃ k : Nat, k ≤ 2 ∧ iv = .int .i64 k ∧ Below Vw15.heap.size Vw15 wr) (fun iv _ => 2 - (intOf iv).toNat)
  case atStart => exact ⟨0, by omega, rfl, Below.refl _ _⟩
  case round =>
    obtain ⟨k, hk, rfl, hbr⟩ := hrel
    obtain ⟨wo, hwo⟩ : ∃ wo, wo = wr := ⟨wr, rfl⟩
    subst hwo
    by_cases hlt : k < 2
    · have hlt' : ((k : Nat) : Int) < 2 := by omega
      have IXo := fIX.below hbr
      have TLo := fTL.below hbr
      have PPo := fPP.below hbr
      have QQo := fQQ.below hbr
      have IIo := fII.below hbr
      have TWo := fTW.below hbr
      have TPo := fTP.below hbr
      have TQo := fTQ.below hbr
      have IWo := fIW.below hbr
      have BXo := (hbr.block _ (Array.getElem?_eq_some_iff.1 fBX).1).trans fBX
      have BIo := (hbr.block _ (Array.getElem?_eq_some_iff.1 fBI).1).trans fBI
      have BWo := (hbr.block _ (Array.getElem?_eq_some_iff.1 fBW).1).trans fBW
      have HBR := hide hbr
      clear hbr fIX fTL fPP fQQ fII fTW fTP fTQ fIW fBX fBI fBW
      have gi0 : wo.cell? ⟨w12.heap.size, 0, none⟩ = some (.int .i64 x.k) := by simp [World.cell?, BIo]
      have gi1 : wo.cell? ⟨w12.heap.size, 1, none⟩ = some (.string x.t) := by simp [World.cell?, BIo]
      have gi2 : wo.cell? ⟨w12.heap.size, 2, none⟩ = some (.slice i1 x.l.length j1) := by simp [World.cell?, BIo]
      have gi3 : wo.cell? ⟨w12.heap.size, 3, none⟩ = some (.slice i2 x.p.length j2) := by simp [World.cell?, BIo]
      have gi4 : wo.cell? ⟨w12.heap.size, 4, none⟩ = some (.slice i3 x.s.length j3) := by simp [World.cell?, BIo]
      go_wp2_with fail
      refine (HPu wo _ _ _ _ _ _ _ _ IIo TWo).mono ?_
      rintro e u0 ⟨⟨sa, n, rfl, Pa, Ia⟩, bu0⟩
      clear gi0 gi1 gi2 gi3 gi4
      obtain ⟨Vo1, hVo1, AVo1, Ba⟩ := newboxQ u0 (.cells #[.int .i64 sa.k, .string sa.t, .slice sa.a1 sa.n1 sa.c1, .slice sa.a2 sa.n2 sa.c2, .slice sa.a3 sa.n3 sa.c3] 28)
      have ga0 : Vo1.cell? ⟨u0.heap.size, 0, none⟩ = some (.int .i64 sa.k) := by simp [World.cell?, Ba]
      have ga1 : Vo1.cell? ⟨u0.heap.size, 1, none⟩ = some (.string sa.t) := by simp [World.cell?, Ba]
      have ga2 : Vo1.cell? ⟨u0.heap.size, 2, none⟩ = some (.slice sa.a1 sa.n1 sa.c1) := by simp [World.cell?, Ba]
      have ga3 : Vo1.cell? ⟨u0.heap.size, 3, none⟩ = some (.slice sa.a2 sa.n2 sa.c2) := by simp [World.cell?, Ba]
      have ga4 : Vo1.cell? ⟨u0.heap.size, 4, none⟩ = some (.slice sa.a3 sa.n3 sa.c3) := by simp [World.cell?, Ba]
      have cVo1 := bQ bu0 AVo1
      have gvh := (cVo1.block _ (Array.getElem?_eq_some_iff.1 BWo).1).trans BWo
      have gv0 : Vo1.cell? ⟨w14.heap.size, 0, none⟩ = some (.int .i64 sw.k) := by simp [World.cell?, gvh]
      have gv1 : Vo1.cell? ⟨w14.heap.size, 1, none⟩ = some (.string sw.t) := by simp [World.cell?, gvh]
      have gv2 : Vo1.cell? ⟨w14.heap.size, 2, none⟩ = some (.slice sw.a1 sw.n1 sw.c1) := by simp [World.cell?, gvh]
      have gv3 : Vo1.cell? ⟨w14.heap.size, 3, none⟩ = some (.slice sw.a2 sw.n2 sw.c2) := by simp [World.cell?, gvh]
      have gv4 : Vo1.cell? ⟨w14.heap.size, 4, none⟩ = some (.slice sw.a3 sw.n3 sw.c3) := by simp [World.cell?, gvh]
      go_wp2_with fail
      refine (HSm Vo1 _ _ _ (Ia.below AVo1) (IWo.below cVo1)).mono ?_
      rintro e u2 ⟨rfl, bu2⟩
      clear hVo1 ga0 ga1 ga2 ga3 ga4 gvh gv0 gv1 gv2 gv3 gv4
      have cu2 := bQ cVo1 bu2
      have gih := (cu2.block _ (Array.getElem?_eq_some_iff.1 BIo).1).trans BIo
      have gi0 : u2.cell? ⟨w12.heap.size, 0, none⟩ = some (.int .i64 x.k) := by simp [World.cell?, gih]
      have gi1 : u2.cell? ⟨w12.heap.size, 1, none⟩ = some (.string x.t) := by simp [World.cell?, gih]
      have gi2 : u2.cell? ⟨w12.heap.size, 2, none⟩ = some (.slice i1 x.l.length j1) := by simp [World.cell?, gih]
      have gi3 : u2.cell? ⟨w12.heap.size, 3, none⟩ = some (.slice i2 x.p.length j2) := by simp [World.cell?, gih]
      have gi4 : u2.cell? ⟨w12.heap.size, 4, none⟩ = some (.slice i3 x.s.length j3) := by simp [World.cell?, gih]
      go_wp2_with fail
      refine (HPop u2 _ _ _ _ _ _ (IIo.below cu2)).mono ?_
      rintro e u3 ⟨⟨sb, n, m, rfl, Pb⟩, bu3⟩
      clear gih gi0 gi1 gi2 gi3 gi4
      obtain ⟨Vo4, hVo4, AVo4, Bb⟩ := newboxQ u3 (.cells #[.int .i64 sb.k, .string sb.t, .slice sb.a1 sb.n1 sb.c1, .slice sb.a2 sb.n2 sb.c2, .slice sb.a3 sb.n3 sb.c3] 28)
      have cu3 := bQ cu2 bu3
      have cVo4 := bQ cu3 AVo4
      have gih := (cVo4.block _ (Array.getElem?_eq_some_iff.1 BIo).1).trans BIo
      have gi0 : Vo4.cell? ⟨w12.heap.size, 0, none⟩ = some (.int .i64 x.k) := by simp [World.cell?, gih]
      have gi1 : Vo4.cell? ⟨w12.heap.size, 1, none⟩ = some (.string x.t) := by simp [World.cell?, gih]
      have gi2 : Vo4.cell? ⟨w12.heap.size, 2, none⟩ = some (.slice i1 x.l.length j1) := by simp [World.cell?, gih]
      have gi3 : Vo4.cell? ⟨w12.heap.size, 3, none⟩ = some (.slice i2 x.p.length j2) := by simp [World.cell?, gih]
      have gi4 : Vo4.cell? ⟨w12.heap.size, 4, none⟩ = some (.slice i3 x.s.length j3) := by simp [World.cell?, gih]
      go_wp2_with fail
      refine (HTrim Vo4 _ _ _ _ _ _ (IIo.below cVo4)).mono ?_
      rintro e u5 ⟨⟨sc, m, rfl, Pc⟩, bu5⟩
      clear hVo4 gih gi0 gi1 gi2 gi3 gi4
      obtain ⟨Vo6, hVo6, AVo6, Bc⟩ := newboxQ u5 (.cells #[.int .i64 sc.k, .string sc.t, .slice sc.a1 sc.n1 sc.c1, .slice sc.a2 sc.n2 sc.c2, .slice sc.a3 sc.n3 sc.c3] 28)
      have cu5 := bQ cVo4 bu5
      have cVo6 := bQ cu5 AVo6
      have gih := (cVo6.block _ (Array.getElem?_eq_some_iff.1 BIo).1).trans BIo
      have gi0 : Vo6.cell? ⟨w12.heap.size, 0, none⟩ = some (.int .i64 x.k) := by simp [World.cell?, gih]
      have gi1 : Vo6.cell? ⟨w12.heap.size, 1, none⟩ = some (.string x.t) := by simp [World.cell?, gih]
      have gi2 : Vo6.cell? ⟨w12.heap.size, 2, none⟩ = some (.slice i1 x.l.length j1) := by simp [World.cell?, gih]
      have gi3 : Vo6.cell? ⟨w12.heap.size, 3, none⟩ = some (.slice i2 x.p.length j2) := by simp [World.cell?, gih]
      have gi4 : Vo6.cell? ⟨w12.heap.size, 4, none⟩ = some (.slice i3 x.s.length j3) := by simp [World.cell?, gih]
      go_wp2_with fail
      refine (HRem Vo6 _ _ _ _ _ _ (IIo.below cVo6)).mono ?_
      rintro e u7 ⟨⟨sd, n, m, rfl, Pd⟩, bu7⟩
      clear hVo6 gih gi0 gi1 gi2 gi3 gi4
      obtain ⟨Vo8, hVo8, AVo8, Bd⟩ := newboxQ u7 (.cells #[.int .i64 sd.k, .string sd.t, .slice sd.a1 sd.n1 sd.c1, .slice sd.a2 sd.n2 sd.c2, .slice sd.a3 sd.n3 sd.c3] 28)
      have cu7 := bQ cVo6 bu7
      have cVo8 := bQ cu7 AVo8
      have gih := (cVo8.block _ (Array.getElem?_eq_some_iff.1 BIo).1).trans BIo
      have gi0 : Vo8.cell? ⟨w12.heap.size, 0, none⟩ = some (.int .i64 x.k) := by simp [World.cell?, gih]
      have gi1 : Vo8.cell? ⟨w12.heap.size, 1, none⟩ = some (.string x.t) := by simp [World.cell?, gih]
      have gi2 : Vo8.cell? ⟨w12.heap.size, 2, none⟩ = some (.slice i1 x.l.length j1) := by simp [World.cell?, gih]
      have gi3 : Vo8.cell? ⟨w12.heap.size, 3, none⟩ = some (.slice i2 x.p.length j2) := by simp [World.cell?, gih]
      have gi4 : Vo8.cell? ⟨w12.heap.size, 4, none⟩ = some (.slice i3 x.s.length j3) := by simp [World.cell?, gih]
      go_wp2_with fail
      refine (HRng Vo8 _ _ _ _ _ _ (IIo.below cVo8)).mono ?_
      rintro e u9 ⟨⟨adr, nr, car, m, rfl, Pr⟩, bu9⟩
      clear hVo8 gih gi0 gi1 gi2 gi3 gi4
      have cu9 := bQ cVo8 bu9
      have gih := (cu9.block _ (Array.getElem?_eq_some_iff.1 BIo).1).trans BIo
      have gi0 : u9.cell? ⟨w12.heap.size, 0, none⟩ = some (.int .i64 x.k) := by simp [World.cell?, gih]
      have gi1 : u9.cell? ⟨w12.heap.size, 1, none⟩ = some (.string x.t) := by simp [World.cell?, gih]
      have gi2 : u9.cell? ⟨w12.heap.size, 2, none⟩ = some (.slice i1 x.l.length j1) := by simp [World.cell?, gih]
      have gi3 : u9.cell? ⟨w12.heap.size, 3, none⟩ = some (.slice i2 x.p.length j2) := by simp [World.cell?, gih]
      have gi4 : u9.cell? ⟨w12.heap.size, 4, none⟩ = some (.slice i3 x.s.length j3) := by simp [World.cell?, gih]
      go_wp2_with fail
      refine (HSa u9 _ _ _ _ _ _ _ _ (IIo.below cu9) (TWo.below cu9)).mono ?_
      rintro e u10 ⟨⟨sf, n, m, rfl, Pf⟩, bu10⟩
      clear gih gi0 gi1 gi2 gi3 gi4
      obtain ⟨Vo11, hVo11, AVo11, Bf⟩ := newboxQ u10 (.cells #[.int .i64 sf.k, .string sf.t, .slice sf.a1 sf.n1 sf.c1, .slice sf.a2 sf.n2 sf.c2, .slice sf.a3 sf.n3 sf.c3] 28)
      have cu10 := bQ cu9 bu10
      have cVo11 := bQ cu10 AVo11
      have gih := (cVo11.block _ (Array.getElem?_eq_some_iff.1 BIo).1).trans BIo
      have gi0 : Vo11.cell? ⟨w12.heap.size, 0, none⟩ = some (.int .i64 x.k) := by simp [World.cell?, gih]
      have gi1 : Vo11.cell? ⟨w12.heap.size, 1, none⟩ = some (.string x.t) := by simp [World.cell?, gih]
      have gi2 : Vo11.cell? ⟨w12.heap.size, 2, none⟩ = some (.slice i1 x.l.length j1) := by simp [World.cell?, gih]
      have gi3 : Vo11.cell? ⟨w12.heap.size, 3, none⟩ = some (.slice i2 x.p.length j2) := by simp [World.cell?, gih]
      have gi4 : Vo11.cell? ⟨w12.heap.size, 4, none⟩ = some (.slice i3 x.s.length j3) := by simp [World.cell?, gih]
      go_wp2_with fail
      refine (HSr Vo11 _ _ _ _ _ _ _ _ (IIo.below cVo11) (TWo.below cVo11)).mono ?_
      rintro e u12 ⟨⟨sg, n, m, rfl, Pg⟩, bu12⟩
      clear hVo11 gih gi0 gi1 gi2 gi3 gi4
      obtain ⟨Vo13, hVo13, AVo13, Bg⟩ := newboxQ u12 (.cells #[.int .i64 sg.k, .string sg.t, .slice sg.a1 sg.n1 sg.c1, .slice sg.a2 sg.n2 sg.c2, .slice sg.a3 sg.n3 sg.c3] 28)
      have cu12 := bQ cVo11 bu12
      have cVo13 := bQ cu12 AVo13
      have gih := (cVo13.block _ (Array.getElem?_eq_some_iff.1 BIo).1).trans BIo
      have gi0 : Vo13.cell? ⟨w12.heap.size, 0, none⟩ = some (.int .i64 x.k) := by simp [World.cell?, gih]
      have gi1 : Vo13.cell? ⟨w12.heap.size, 1, none⟩ = some (.string x.t) := by simp [World.cell?, gih]
      have gi2 : Vo13.cell? ⟨w12.heap.size, 2, none⟩ = some (.slice i1 x.l.length j1) := by simp [World.cell?, gih]
      have gi3 : Vo13.cell? ⟨w12.heap.size, 3, none⟩ = some (.slice i2 x.p.length j2) := by simp [World.cell?, gih]
      have gi4 : Vo13.cell? ⟨w12.heap.size, 4, none⟩ = some (.slice i3 x.s.length j3) := by simp [World.cell?, gih]
      obtain ⟨Vo14, hVo14, AVo14, Lm⟩ := newboxQ Vo13 (.cells #[.int .i64 x.k, .string x.t, .slice i1 x.l.length j1, .slice i2 x.p.length j2, .slice i3 x.s.length j3, .int .i64 x.k, .string x.t, .slice i1 x.l.length j1, .slice i2 x.p.length j2, .slice i3 x.s.length j3] 28)
      have cVo14 := bQ cVo13 AVo14
      go_wp2_with fail
      refine (HMe Vo14 Vo13.heap.size _ _ _ _ _ _ (IIo.below cVo14) Lm).mono ?_
      rintro e u15 ⟨⟨adm, nm, cam, m, rfl, Pm⟩, bu15⟩
      clear hVo13 hVo14 gih gi0 gi1 gi2 gi3 gi4 Lm
      have cu15 := bQ cVo14 bu15
      have gih := (cu15.block _ (Array.getElem?_eq_some_iff.1 BIo).1).trans BIo
      have gi0 : u15.cell? ⟨w12.heap.size, 0, none⟩ = some (.int .i64 x.k) := by simp [World.cell?, gih]
      have gi1 : u15.cell? ⟨w12.heap.size, 1, none⟩ = some (.string x.t) := by simp [World.cell?, gih]
      have gi2 : u15.cell? ⟨w12.heap.size, 2, none⟩ = some (.slice i1 x.l.length j1) := by simp [World.cell?, gih]
      have gi3 : u15.cell? ⟨w12.heap.size, 3, none⟩ = some (.slice i2 x.p.length j2) := by simp [World.cell?, gih]
      have gi4 : u15.cell? ⟨w12.heap.size, 4, none⟩ = some (.slice i3 x.s.length j3) := by simp [World.cell?, gih]
      obtain ⟨Vo16, hVo16, AVo16, Lj⟩ := newboxQ u15 (.cells #[.int .i64 x.k, .string x.t, .slice i1 x.l.length j1, .slice i2 x.p.length j2, .slice i3 x.s.length j3] 28)
      have cVo16 := bQ cu15 AVo16
      go_wp2_with fail
      refine (HJo Vo16 u15.heap.size _ _ _ _ _ _ (IIo.below cVo16) Lj).mono ?_
      rintro e u17 ⟨⟨adj, nj, caj, m, rfl, Pj⟩, bu17⟩
      clear hVo16 gih gi0 gi1 gi2 gi3 gi4 Lj
      have cu17 := bQ cVo16 bu17
      have gih := (cu17.block _ (Array.getElem?_eq_some_iff.1 BIo).1).trans BIo
      have gi0 : u17.cell? ⟨w12.heap.size, 0, none⟩ = some (.int .i64 x.k) := by simp [World.cell?, gih]
      have gi1 : u17.cell? ⟨w12.heap.size, 1, none⟩ = some (.string x.t) := by simp [World.cell?, gih]
      have gi2 : u17.cell? ⟨w12.heap.size, 2, none⟩ = some (.slice i1 x.l.length j1) := by simp [World.cell?, gih]
      have gi3 : u17.cell? ⟨w12.heap.size, 3, none⟩ = some (.slice i2 x.p.length j2) := by simp [World.cell?, gih]
      have gi4 : u17.cell? ⟨w12.heap.size, 4, none⟩ = some (.slice i3 x.s.length j3) := by simp [World.cell?, gih]
      go_wp2_with fail
      refine (HHp u17 _ _ _ _ _ _ _ _ (IIo.below cu17) (TPo.below cu17)).mono ?_
      rintro e u18 ⟨⟨sh, n, m, rfl, Ph⟩, bu18⟩
      clear gih gi0 gi1 gi2 gi3 gi4
      obtain ⟨Vo19, hVo19, AVo19, Bh⟩ := newboxQ u18 (.cells #[.int .i64 sh.k, .string sh.t, .slice sh.a1 sh.n1 sh.c1, .slice sh.a2 sh.n2 sh.c2, .slice sh.a3 sh.n3 sh.c3] 28)
      have cu18 := bQ cu17 bu18
      have cVo19 := bQ cu18 AVo19
      have gih := (cVo19.block _ (Array.getElem?_eq_some_iff.1 BIo).1).trans BIo
      have gi0 : Vo19.cell? ⟨w12.heap.size, 0, none⟩ = some (.int .i64 x.k) := by simp [World.cell?, gih]
      have gi1 : Vo19.cell? ⟨w12.heap.size, 1, none⟩ = some (.string x.t) := by simp [World.cell?, gih]
      have gi2 : Vo19.cell? ⟨w12.heap.size, 2, none⟩ = some (.slice i1 x.l.length j1) := by simp [World.cell?, gih]
      have gi3 : Vo19.cell? ⟨w12.heap.size, 3, none⟩ = some (.slice i2 x.p.length j2) := by simp [World.cell?, gih]
      have gi4 : Vo19.cell? ⟨w12.heap.size, 4, none⟩ = some (.slice i3 x.s.length j3) := by simp [World.cell?, gih]
      go_wp2_with fail
      refine (HHd Vo19 _ _ _ _ _ _ _ _ (IIo.below cVo19) (TWo.below cVo19)).mono ?_
      rintro e u20 ⟨⟨sk, n, m, rfl, Pk⟩, bu20⟩
      clear hVo19 gih gi0 gi1 gi2 gi3 gi4
      obtain ⟨Vo21, hVo21, AVo21, Bk⟩ := newboxQ u20 (.cells #[.int .i64 sk.k, .string sk.t, .slice sk.a1 sk.n1 sk.c1, .slice sk.a2 sk.n2 sk.c2, .slice sk.a3 sk.n3 sk.c3] 28)
      have cu20 := bQ cVo19 bu20
      have cVo21 := bQ cu20 AVo21
      have gih := (cVo21.block _ (Array.getElem?_eq_some_iff.1 BIo).1).trans BIo
      have gi0 : Vo21.cell? ⟨w12.heap.size, 0, none⟩ = some (.int .i64 x.k) := by simp [World.cell?, gih]
      have gi1 : Vo21.cell? ⟨w12.heap.size, 1, none⟩ = some (.string x.t) := by simp [World.cell?, gih]
      have gi2 : Vo21.cell? ⟨w12.heap.size, 2, none⟩ = some (.slice i1 x.l.length j1) := by simp [World.cell?, gih]
      have gi3 : Vo21.cell? ⟨w12.heap.size, 3, none⟩ = some (.slice i2 x.p.length j2) := by simp [World.cell?, gih]
      have gi4 : Vo21.cell? ⟨w12.heap.size, 4, none⟩ = some (.slice i3 x.s.length j3) := by simp [World.cell?, gih]
      go_wp2_with fail
      refine (HZp Vo21 _ _ _ _ _ _ _ _ (IIo.below cVo21) (TQo.below cVo21)).mono ?_
      rintro e u22 ⟨⟨sn, n, m, rfl, Pn⟩, bu22⟩
      clear hVo21 gih gi0 gi1 gi2 gi3 gi4
      obtain ⟨Vo23, hVo23, AVo23, Bn⟩ := newboxQ u22 (.cells #[.int .i64 sn.k, .string sn.t, .slice sn.a1 sn.n1 sn.c1, .slice sn.a2 sn.n2 sn.c2, .slice sn.a3 sn.n3 sn.c3] 28)
      have cu22 := bQ cVo21 bu22
      have cVo23 := bQ cu22 AVo23
      have gih := (cVo23.block _ (Array.getElem?_eq_some_iff.1 BIo).1).trans BIo
      have gi0 : Vo23.cell? ⟨w12.heap.size, 0, none⟩ = some (.int .i64 x.k) := by simp [World.cell?, gih]
      have gi1 : Vo23.cell? ⟨w12.heap.size, 1, none⟩ = some (.string x.t) := by simp [World.cell?, gih]
      have gi2 : Vo23.cell? ⟨w12.heap.size, 2, none⟩ = some (.slice i1 x.l.length j1) := by simp [World.cell?, gih]
      have gi3 : Vo23.cell? ⟨w12.heap.size, 3, none⟩ = some (.slice i2 x.p.length j2) := by simp [World.cell?, gih]
      have gi4 : Vo23.cell? ⟨w12.heap.size, 4, none⟩ = some (.slice i3 x.s.length j3) := by simp [World.cell?, gih]
      go_wp2_with fail
      refine (HZd Vo23 _ _ _ _ _ _ _ _ (IIo.below cVo23) (TWo.below cVo23)).mono ?_
      rintro e u24 ⟨⟨so, n, m, rfl, Po⟩, bu24⟩
      clear hVo23 gih gi0 gi1 gi2 gi3 gi4
      obtain ⟨Vo25, hVo25, AVo25, Bo⟩ := newboxQ u24 (.cells #[.int .i64 so.k, .string so.t, .slice so.a1 so.n1 so.c1, .slice so.a2 so.n2 so.c2, .slice so.a3 so.n3 so.c3] 28)
      have cu24 := bQ cVo23 bu24
      have cVo25 := bQ cu24 AVo25
      have gih := (cVo25.block _ (Array.getElem?_eq_some_iff.1 BIo).1).trans BIo
      have gi0 : Vo25.cell? ⟨w12.heap.size, 0, none⟩ = some (.int .i64 x.k) := by simp [World.cell?, gih]
      have gi1 : Vo25.cell? ⟨w12.heap.size, 1, none⟩ = some (.string x.t) := by simp [World.cell?, gih]
      have gi2 : Vo25.cell? ⟨w12.heap.size, 2, none⟩ = some (.slice i1 x.l.length j1) := by simp [World.cell?, gih]
      have gi3 : Vo25.cell? ⟨w12.heap.size, 3, none⟩ = some (.slice i2 x.p.length j2) := by simp [World.cell?, gih]
      have gi4 : Vo25.cell? ⟨w12.heap.size, 4, none⟩ = some (.slice i3 x.s.length j3) := by simp [World.cell?, gih]
      go_wp2_with fail
      refine (HZr Vo25 _ _ _ _ _ _ (IIo.below cVo25)).mono ?_
      rintro e u26 ⟨⟨adt, nt, cat, m, rfl, Pt⟩, bu26⟩
      clear hVo25 gih gi0 gi1 gi2 gi3 gi4
      have cu26 := bQ cVo25 bu26
      have gih := (cu26.block _ (Array.getElem?_eq_some_iff.1 BIo).1).trans BIo
      have gi0 : u26.cell? ⟨w12.heap.size, 0, none⟩ = some (.int .i64 x.k) := by simp [World.cell?, gih]
      have gi1 : u26.cell? ⟨w12.heap.size, 1, none⟩ = some (.string x.t) := by simp [World.cell?, gih]
      have gi2 : u26.cell? ⟨w12.heap.size, 2, none⟩ = some (.slice i1 x.l.length j1) := by simp [World.cell?, gih]
      have gi3 : u26.cell? ⟨w12.heap.size, 3, none⟩ = some (.slice i2 x.p.length j2) := by simp [World.cell?, gih]
      have gi4 : u26.cell? ⟨w12.heap.size, 4, none⟩ = some (.slice i3 x.s.length j3) := by simp [World.cell?, gih]
      go_wp2_with fail
      refine (HEn u26 _ _ _ _ _ _ (IIo.below cu26)).mono ?_
      rintro e u27 ⟨⟨ts, m, rfl, hts⟩, bu27⟩
      clear gih gi0 gi1 gi2 gi3 gi4
      go_wp2_with fail
      refine (HDe u27 ts hts).mono ?_
      rintro e u28 ⟨⟨su, m, rfl, Pu⟩, bu28⟩
      obtain ⟨Vo29, hVo29, AVo29, Bu⟩ := newboxQ u28 (.cells #[.int .i64 su.k, .string su.t, .slice su.a1 su.n1 su.c1, .slice su.a2 su.n2 su.c2, .slice su.a3 su.n3 su.c3] 28)
      have cu27 := bQ cu26 bu27
      have cu28 := bQ cu27 bu28
      have cVo29 := bQ cu28 AVo29
      have gih := (cVo29.block _ (Array.getElem?_eq_some_iff.1 BIo).1).trans BIo
      have gi0 : Vo29.cell? ⟨w12.heap.size, 0, none⟩ = some (.int .i64 x.k) := by simp [World.cell?, gih]
      have gi1 : Vo29.cell? ⟨w12.heap.size, 1, none⟩ = some (.string x.t) := by simp [World.cell?, gih]
      have gi2 : Vo29.cell? ⟨w12.heap.size, 2, none⟩ = some (.slice i1 x.l.length j1) := by simp [World.cell?, gih]
      have gi3 : Vo29.cell? ⟨w12.heap.size, 3, none⟩ = some (.slice i2 x.p.length j2) := by simp [World.cell?, gih]
      have gi4 : Vo29.cell? ⟨w12.heap.size, 4, none⟩ = some (.slice i3 x.s.length j3) := by simp [World.cell?, gih]
      have gxh := (cVo29.block _ (Array.getElem?_eq_some_iff.1 BXo).1).trans BXo
      have gx0 : Vo29.cell? ⟨w.heap.size, 0, none⟩ = some (.int .i64 x.k) := by simp [World.cell?, gxh]
      have gx1 : Vo29.cell? ⟨w.heap.size, 1, none⟩ = some (.string x.t) := by simp [World.cell?, gxh]
      have gx2 : Vo29.cell? ⟨w.heap.size, 2, none⟩ = some (.slice a1 x.l.length c1) := by simp [World.cell?, gxh]
      have gx3 : Vo29.cell? ⟨w.heap.size, 3, none⟩ = some (.slice a2 x.p.length c2) := by simp [World.cell?, gxh]
      have gx4 : Vo29.cell? ⟨w.heap.size, 4, none⟩ = some (.slice a3 x.s.length c3) := by simp [World.cell?, gxh]
      go_wp2_with fail
      refine (HSm Vo29 _ _ _ (IIo.below cVo29) (IXo.below cVo29)).mono ?_
      rintro e u30 ⟨rfl, bu30⟩
      clear hVo29 gih gi0 gi1 gi2 gi3 gi4 gxh gx0 gx1 gx2 gx3 gx4
      have cu30 := bQ cVo29 bu30
      go_wp2_with fail
      refine (HSt u30 _ _ _ _ (TWo.below cu30) (TLo.below cu30)).mono ?_
      rintro e u31 ⟨rfl, bu31⟩
      have cu31 := bQ cu30 bu31
      go_wp2_with fail
      refine (HSm u31 _ _ z (HZ _ _ _ _ _ (TPo.below cu31) (TQo.below cu31)) (HZ _ _ _ _ _ (PPo.below cu31) (QQo.below cu31))).mono ?_
      rintro e u32 ⟨rfl, bu32⟩
      have Ra : Spo wo.heap.size u32 sa := Pa.later (bQ (bQ (bQ (bQ (bQ (bQ (bQ (bQ (bQ (bQ (bQ (bQ (bQ (bQ (bQ (bQ (bQ (bQ (bQ (bQ (bQ (bQ (bQ (bQ (bQ (bQ (bQ (bQ (bQ (bQ (bQ AVo1 bu2) bu3) AVo4) bu5) AVo6) bu7) AVo8) bu9) bu10) AVo11) bu12) AVo13) AVo14) bu15) AVo16) bu17) bu18) AVo19) bu20) AVo21) bu22) AVo23) bu24) AVo25) bu26) bu27) bu28) AVo29) bu30) bu31) bu32) (Nat.le_refl _)
      have Rb : Spo wo.heap.size u32 sb := Pb.later (bQ (bQ (bQ (bQ (bQ (bQ (bQ (bQ (bQ (bQ (bQ (bQ (bQ (bQ (bQ (bQ (bQ (bQ (bQ (bQ (bQ (bQ (bQ (bQ (bQ (bQ (bQ (bQ AVo4 bu5) AVo6) bu7) AVo8) bu9) bu10) AVo11) bu12) AVo13) AVo14) bu15) AVo16) bu17) bu18) AVo19) bu20) AVo21) bu22) AVo23) bu24) AVo25) bu26) bu27) bu28) AVo29) bu30) bu31) bu32) (cu2.size)
      have Rc : Spo wo.heap.size u32 sc := Pc.later (bQ (bQ (bQ (bQ (bQ (bQ (bQ (bQ (bQ (bQ (bQ (bQ (bQ (bQ (bQ (bQ (bQ (bQ (bQ (bQ (bQ (bQ (bQ (bQ (bQ (bQ AVo6 bu7) AVo8) bu9) bu10) AVo11) bu12) AVo13) AVo14) bu15) AVo16) bu17) bu18) AVo19) bu20) AVo21) bu22) AVo23) bu24) AVo25) bu26) bu27) bu28) AVo29) bu30) bu31) bu32) (cVo4.size)
      have Rd : Spo wo.heap.size u32 sd := Pd.later (bQ (bQ (bQ (bQ (bQ (bQ (bQ (bQ (bQ (bQ (bQ (bQ (bQ (bQ (bQ (bQ (bQ (bQ (bQ (bQ (bQ (bQ (bQ (bQ AVo8 bu9) bu10) AVo11) bu12) AVo13) AVo14) bu15) AVo16) bu17) bu18) AVo19) bu20) AVo21) bu22) AVo23) bu24) AVo25) bu26) bu27) bu28) AVo29) bu30) bu31) bu32) (cVo6.size)
      have Rf : Spo wo.heap.size u32 sf := Pf.later (bQ (bQ (bQ (bQ (bQ (bQ (bQ (bQ (bQ (bQ (bQ (bQ (bQ (bQ (bQ (bQ (bQ (bQ (bQ (bQ (bQ AVo11 bu12) AVo13) AVo14) bu15) AVo16) bu17) bu18) AVo19) bu20) AVo21) bu22) AVo23) bu24) AVo25) bu26) bu27) bu28) AVo29) bu30) bu31) bu32) (cu9.size)
      have Rg : Spo wo.heap.size u32 sg := Pg.later (bQ (bQ (bQ (bQ (bQ (bQ (bQ (bQ (bQ (bQ (bQ (bQ (bQ (bQ (bQ (bQ (bQ (bQ (bQ AVo13 AVo14) bu15) AVo16) bu17) bu18) AVo19) bu20) AVo21) bu22) AVo23) bu24) AVo25) bu26) bu27) bu28) AVo29) bu30) bu31) bu32) (cVo11.size)
      have Rh : Spo wo.heap.size u32 sh := Ph.later (bQ (bQ (bQ (bQ (bQ (bQ (bQ (bQ (bQ (bQ (bQ (bQ (bQ AVo19 bu20) AVo21) bu22) AVo23) bu24) AVo25) bu26) bu27) bu28) AVo29) bu30) bu31) bu32) (cu17.size)
      have Rk : Spo wo.heap.size u32 sk := Pk.later (bQ (bQ (bQ (bQ (bQ (bQ (bQ (bQ (bQ (bQ (bQ AVo21 bu22) AVo23) bu24) AVo25) bu26) bu27) bu28) AVo29) bu30) bu31) bu32) (cVo19.size)
      have Rn : Spo wo.heap.size u32 sn := Pn.later (bQ (bQ (bQ (bQ (bQ (bQ (bQ (bQ (bQ AVo23 bu24) AVo25) bu26) bu27) bu28) AVo29) bu30) bu31) bu32) (cVo21.size)
      have Ro : Spo wo.heap.size u32 so := Po.later (bQ (bQ (bQ (bQ (bQ (bQ (bQ AVo25 bu26) bu27) bu28) AVo29) bu30) bu31) bu32) (cVo23.size)
      have Ru : Spo wo.heap.size u32 su := Pu.later (bQ (bQ (bQ AVo29 bu30) bu31) bu32) (cu27.size)
      have Rr : SpoT wo.heap.size u32 adr nr := Pr.later (bQ (bQ (bQ (bQ (bQ (bQ (bQ (bQ (bQ (bQ (bQ (bQ (bQ (bQ (bQ (bQ (bQ (bQ (bQ (bQ (bQ (bQ bu10 AVo11) bu12) AVo13) AVo14) bu15) AVo16) bu17) bu18) AVo19) bu20) AVo21) bu22) AVo23) bu24) AVo25) bu26) bu27) bu28) AVo29) bu30) bu31) bu32) (cVo8.size)
      have Rm : SpoT wo.heap.size u32 adm nm := Pm.later (bQ (bQ (bQ (bQ (bQ (bQ (bQ (bQ (bQ (bQ (bQ (bQ (bQ (bQ (bQ (bQ AVo16 bu17) bu18) AVo19) bu20) AVo21) bu22) AVo23) bu24) AVo25) bu26) bu27) bu28) AVo29) bu30) bu31) bu32) (cVo14.size)
      have Rj : SpoT wo.heap.size u32 adj nj := Pj.later (bQ (bQ (bQ (bQ (bQ (bQ (bQ (bQ (bQ (bQ (bQ (bQ (bQ (bQ bu18 AVo19) bu20) AVo21) bu22) AVo23) bu24) AVo25) bu26) bu27) bu28) AVo29) bu30) bu31) bu32) (cVo16.size)
      have Rt : SpoT wo.heap.size u32 adt nt := Pt.later (bQ (bQ (bQ (bQ (bQ bu27 bu28) AVo29) bu30) bu31) bu32) (cVo25.size)
      have zah := ((bQ (bQ (bQ (bQ (bQ (bQ (bQ (bQ (bQ (bQ (bQ (bQ (bQ (bQ (bQ (bQ (bQ (bQ (bQ (bQ (bQ (bQ (bQ (bQ (bQ (bQ (bQ (bQ (bQ (bQ bu2 bu3) AVo4) bu5) AVo6) bu7) AVo8) bu9) bu10) AVo11) bu12) AVo13) AVo14) bu15) AVo16) bu17) bu18) AVo19) bu20) AVo21) bu22) AVo23) bu24) AVo25) bu26) bu27) bu28) AVo29) bu30) bu31) bu32).block _ (Array.getElem?_eq_some_iff.1 Ba).1).trans Ba
      have za0 : u32.cell? ⟨u0.heap.size, 0, none⟩ = some (.int .i64 sa.k) := by simp [World.cell?, zah]
      have za1 : u32.cell? ⟨u0.heap.size, 1, none⟩ = some (.string sa.t) := by simp [World.cell?, zah]
      have za2 : u32.cell? ⟨u0.heap.size, 2, none⟩ = some (.slice sa.a1 sa.n1 sa.c1) := by simp [World.cell?, zah]
      have za3 : u32.cell? ⟨u0.heap.size, 3, none⟩ = some (.slice sa.a2 sa.n2 sa.c2) := by simp [World.cell?, zah]
      have za4 : u32.cell? ⟨u0.heap.size, 4, none⟩ = some (.slice sa.a3 sa.n3 sa.c3) := by simp [World.cell?, zah]
      have zbh := ((bQ (bQ (bQ (bQ (bQ (bQ (bQ (bQ (bQ (bQ (bQ (bQ (bQ (bQ (bQ (bQ (bQ (bQ (bQ (bQ (bQ (bQ (bQ (bQ (bQ (bQ (bQ bu5 AVo6) bu7) AVo8) bu9) bu10) AVo11) bu12) AVo13) AVo14) bu15) AVo16) bu17) bu18) AVo19) bu20) AVo21) bu22) AVo23) bu24) AVo25) bu26) bu27) bu28) AVo29) bu30) bu31) bu32).block _ (Array.getElem?_eq_some_iff.1 Bb).1).trans Bb
      have zb0 : u32.cell? ⟨u3.heap.size, 0, none⟩ = some (.int .i64 sb.k) := by simp [World.cell?, zbh]
      have zb1 : u32.cell? ⟨u3.heap.size, 1, none⟩ = some (.string sb.t) := by simp [World.cell?, zbh]
      have zb2 : u32.cell? ⟨u3.heap.size, 2, none⟩ = some (.slice sb.a1 sb.n1 sb.c1) := by simp [World.cell?, zbh]
      have zb3 : u32.cell? ⟨u3.heap.size, 3, none⟩ = some (.slice sb.a2 sb.n2 sb.c2) := by simp [World.cell?, zbh]
      have zb4 : u32.cell? ⟨u3.heap.size, 4, none⟩ = some (.slice sb.a3 sb.n3 sb.c3) := by simp [World.cell?, zbh]
      have zch := ((bQ (bQ (bQ (bQ (bQ (bQ (bQ (bQ (bQ (bQ (bQ (bQ (bQ (bQ (bQ (bQ (bQ (bQ (bQ (bQ (bQ (bQ (bQ (bQ (bQ bu7 AVo8) bu9) bu10) AVo11) bu12) AVo13) AVo14) bu15) AVo16) bu17) bu18) AVo19) bu20) AVo21) bu22) AVo23) bu24) AVo25) bu26) bu27) bu28) AVo29) bu30) bu31) bu32).block _ (Array.getElem?_eq_some_iff.1 Bc).1).trans Bc
      have zc0 : u32.cell? ⟨u5.heap.size, 0, none⟩ = some (.int .i64 sc.k) := by simp [World.cell?, zch]
      have zc1 : u32.cell? ⟨u5.heap.size, 1, none⟩ = some (.string sc.t) := by simp [World.cell?, zch]
      have zc2 : u32.cell? ⟨u5.heap.size, 2, none⟩ = some (.slice sc.a1 sc.n1 sc.c1) := by simp [World.cell?, zch]
      have zc3 : u32.cell? ⟨u5.heap.size, 3, none⟩ = some (.slice sc.a2 sc.n2 sc.c2) := by simp [World.cell?, zch]
      have zc4 : u32.cell? ⟨u5.heap.size, 4, none⟩ = some (.slice sc.a3 sc.n3 sc.c3) := by simp [World.cell?, zch]
      have zdh := ((bQ (bQ (bQ (bQ (bQ (bQ (bQ (bQ (bQ (bQ (bQ (bQ (bQ (bQ (bQ (bQ (bQ (bQ (bQ (bQ (bQ (bQ (bQ bu9 bu10) AVo11) bu12) AVo13) AVo14) bu15) AVo16) bu17) bu18) AVo19) bu20) AVo21) bu22) AVo23) bu24) AVo25) bu26) bu27) bu28) AVo29) bu30) bu31) bu32).block _ (Array.getElem?_eq_some_iff.1 Bd).1).trans Bd
      have zd0 : u32.cell? ⟨u7.heap.size, 0, none⟩ = some (.int .i64 sd.k) := by simp [World.cell?, zdh]
      have zd1 : u32.cell? ⟨u7.heap.size, 1, none⟩ = some (.string sd.t) := by simp [World.cell?, zdh]
      have zd2 : u32.cell? ⟨u7.heap.size, 2, none⟩ = some (.slice sd.a1 sd.n1 sd.c1) := by simp [World.cell?, zdh]
      have zd3 : u32.cell? ⟨u7.heap.size, 3, none⟩ = some (.slice sd.a2 sd.n2 sd.c2) := by simp [World.cell?, zdh]
      have zd4 : u32.cell? ⟨u7.heap.size, 4, none⟩ = some (.slice sd.a3 sd.n3 sd.c3) := by simp [World.cell?, zdh]
      have zfh := ((bQ (bQ (bQ (bQ (bQ (bQ (bQ (bQ (bQ (bQ (bQ (bQ (bQ (bQ (bQ (bQ (bQ (bQ (bQ (bQ bu12 AVo13) AVo14) bu15) AVo16) bu17) bu18) AVo19) bu20) AVo21) bu22) AVo23) bu24) AVo25) bu26) bu27) bu28) AVo29) bu30) bu31) bu32).block _ (Array.getElem?_eq_some_iff.1 Bf).1).trans Bf
      have zf0 : u32.cell? ⟨u10.heap.size, 0, none⟩ = some (.int .i64 sf.k) := by simp [World.cell?, zfh]
      have zf1 : u32.cell? ⟨u10.heap.size, 1, none⟩ = some (.string sf.t) := by simp [World.cell?, zfh]
      have zf2 : u32.cell? ⟨u10.heap.size, 2, none⟩ = some (.slice sf.a1 sf.n1 sf.c1) := by simp [World.cell?, zfh]
      have zf3 : u32.cell? ⟨u10.heap.size, 3, none⟩ = some (.slice sf.a2 sf.n2 sf.c2) := by simp [World.cell?, zfh]
      have zf4 : u32.cell? ⟨u10.heap.size, 4, none⟩ = some (.slice sf.a3 sf.n3 sf.c3) := by simp [World.cell?, zfh]
      have zgh := ((bQ (bQ (bQ (bQ (bQ (bQ (bQ (bQ (bQ (bQ (bQ (bQ (bQ (bQ (bQ (bQ (bQ (bQ AVo14 bu15) AVo16) bu17) bu18) AVo19) bu20) AVo21) bu22) AVo23) bu24) AVo25) bu26) bu27) bu28) AVo29) bu30) bu31) bu32).block _ (Array.getElem?_eq_some_iff.1 Bg).1).trans Bg
      have zg0 : u32.cell? ⟨u12.heap.size, 0, none⟩ = some (.int .i64 sg.k) := by simp [World.cell?, zgh]
      have zg1 : u32.cell? ⟨u12.heap.size, 1, none⟩ = some (.string sg.t) := by simp [World.cell?, zgh]
      have zg2 : u32.cell? ⟨u12.heap.size, 2, none⟩ = some (.slice sg.a1 sg.n1 sg.c1) := by simp [World.cell?, zgh]
      have zg3 : u32.cell? ⟨u12.heap.size, 3, none⟩ = some (.slice sg.a2 sg.n2 sg.c2) := by simp [World.cell?, zgh]
      have zg4 : u32.cell? ⟨u12.heap.size, 4, none⟩ = some (.slice sg.a3 sg.n3 sg.c3) := by simp [World.cell?, zgh]
      have zhh := ((bQ (bQ (bQ (bQ (bQ (bQ (bQ (bQ (bQ (bQ (bQ (bQ bu20 AVo21) bu22) AVo23) bu24) AVo25) bu26) bu27) bu28) AVo29) bu30) bu31) bu32).block _ (Array.getElem?_eq_some_iff.1 Bh).1).trans Bh
      have zh0 : u32.cell? ⟨u18.heap.size, 0, none⟩ = some (.int .i64 sh.k) := by simp [World.cell?, zhh]
      have zh1 : u32.cell? ⟨u18.heap.size, 1, none⟩ = some (.string sh.t) := by simp [World.cell?, zhh]
      have zh2 : u32.cell? ⟨u18.heap.size, 2, none⟩ = some (.slice sh.a1 sh.n1 sh.c1) := by simp [World.cell?, zhh]
      have zh3 : u32.cell? ⟨u18.heap.size, 3, none⟩ = some (.slice sh.a2 sh.n2 sh.c2) := by simp [World.cell?, zhh]
      have zh4 : u32.cell? ⟨u18.heap.size, 4, none⟩ = some (.slice sh.a3 sh.n3 sh.c3) := by simp [World.cell?, zhh]
      have zkh := ((bQ (bQ (bQ (bQ (bQ (bQ (bQ (bQ (bQ (bQ bu22 AVo23) bu24) AVo25) bu26) bu27) bu28) AVo29) bu30) bu31) bu32).block _ (Array.getElem?_eq_some_iff.1 Bk).1).trans Bk
      have zk0 : u32.cell? ⟨u20.heap.size, 0, none⟩ = some (.int .i64 sk.k) := by simp [World.cell?, zkh]
      have zk1 : u32.cell? ⟨u20.heap.size, 1, none⟩ = some (.string sk.t) := by simp [World.cell?, zkh]
      have zk2 : u32.cell? ⟨u20.heap.size, 2, none⟩ = some (.slice sk.a1 sk.n1 sk.c1) := by simp [World.cell?, zkh]
      have zk3 : u32.cell? ⟨u20.heap.size, 3, none⟩ = some (.slice sk.a2 sk.n2 sk.c2) := by simp [World.cell?, zkh]
      have zk4 : u32.cell? ⟨u20.heap.size, 4, none⟩ = some (.slice sk.a3 sk.n3 sk.c3) := by simp [World.cell?, zkh]
      have znh := ((bQ (bQ (bQ (bQ (bQ (bQ (bQ (bQ bu24 AVo25) bu26) bu27) bu28) AVo29) bu30) bu31) bu32).block _ (Array.getElem?_eq_some_iff.1 Bn).1).trans Bn
      have zn0 : u32.cell? ⟨u22.heap.size, 0, none⟩ = some (.int .i64 sn.k) := by simp [World.cell?, znh]
      have zn1 : u32.cell? ⟨u22.heap.size, 1, none⟩ = some (.string sn.t) := by simp [World.cell?, znh]
      have zn2 : u32.cell? ⟨u22.heap.size, 2, none⟩ = some (.slice sn.a1 sn.n1 sn.c1) := by simp [World.cell?, znh]
      have zn3 : u32.cell? ⟨u22.heap.size, 3, none⟩ = some (.slice sn.a2 sn.n2 sn.c2) := by simp [World.cell?, znh]
      have zn4 : u32.cell? ⟨u22.heap.size, 4, none⟩ = some (.slice sn.a3 sn.n3 sn.c3) := by simp [World.cell?, znh]
      have zoh := ((bQ (bQ (bQ (bQ (bQ (bQ bu26 bu27) bu28) AVo29) bu30) bu31) bu32).block _ (Array.getElem?_eq_some_iff.1 Bo).1).trans Bo
      have zo0 : u32.cell? ⟨u24.heap.size, 0, none⟩ = some (.int .i64 so.k) := by simp [World.cell?, zoh]
      have zo1 : u32.cell? ⟨u24.heap.size, 1, none⟩ = some (.string so.t) := by simp [World.cell?, zoh]
      have zo2 : u32.cell? ⟨u24.heap.size, 2, none⟩ = some (.slice so.a1 so.n1 so.c1) := by simp [World.cell?, zoh]
      have zo3 : u32.cell? ⟨u24.heap.size, 3, none⟩ = some (.slice so.a2 so.n2 so.c2) := by simp [World.cell?, zoh]
      have zo4 : u32.cell? ⟨u24.heap.size, 4, none⟩ = some (.slice so.a3 so.n3 so.c3) := by simp [World.cell?, zoh]
      have zuh := ((bQ (bQ bu30 bu31) bu32).block _ (Array.getElem?_eq_some_iff.1 Bu).1).trans Bu
      have zu0 : u32.cell? ⟨u28.heap.size, 0, none⟩ = some (.int .i64 su.k) := by simp [World.cell?, zuh]
      have zu1 : u32.cell? ⟨u28.heap.size, 1, none⟩ = some (.string su.t) := by simp [World.cell?, zuh]
      have zu2 : u32.cell? ⟨u28.heap.size, 2, none⟩ = some (.slice su.a1 su.n1 su.c1) := by simp [World.cell?, zuh]
      have zu3 : u32.cell? ⟨u28.heap.size, 3, none⟩ = some (.slice su.a2 su.n2 su.c2) := by simp [World.cell?, zuh]
      have zu4 : u32.cell? ⟨u28.heap.size, 4, none⟩ = some (.slice su.a3 su.n3 su.c3) := by simp [World.cell?, zuh]
      have cu32 := bQ cu31 bu32
      have HC : Hid (Below wo.heap.size wo u32) := cu32
      obtain ⟨Vo33, hVo33, AVo33, BA⟩ := newboxQ u32 (.cells #[.int .i64 sa.k, .string sa.t, .slice sa.a1 sa.n1 sa.c1, .slice sa.a2 sa.n2 sa.c2, .slice sa.a3 sa.n3 sa.c3, .int .i64 sb.k, .string sb.t, .slice sb.a1 sb.n1 sb.c1, .slice sb.a2 sb.n2 sb.c2, .slice sb.a3 sb.n3 sb.c3, .int .i64 sc.k, .string sc.t, .slice sc.a1 sc.n1 sc.c1, .slice sc.a2 sc.n2 sc.c2, .slice sc.a3 sc.n3 sc.c3, .int .i64 sd.k, .string sd.t, .slice sd.a1 sd.n1 sd.c1, .slice sd.a2 sd.n2 sd.c2, .slice sd.a3 sd.n3 sd.c3, .int .i64 sf.k, .string sf.t, .slice sf.a1 sf.n1 sf.c1, .slice sf.a2 sf.n2 sf.c2, .slice sf.a3 sf.n3 sf.c3, .int .i64 sg.k, .string sg.t, .slice sg.a1 sg.n1 sg.c1, .slice sg.a2 sg.n2 sg.c2, .slice sg.a3 sg.n3 sg.c3, .int .i64 sh.k, .string sh.t, .slice sh.a1 sh.n1 sh.c1, .slice sh.a2 sh.n2 sh.c2, .slice sh.a3 sh.n3 sh.c3, .int .i64 sk.k, .string sk.t, .slice sk.a1 sk.n1 sk.c1, .slice sk.a2 sk.n2 sk.c2, .slice sk.a3 sk.n3 sk.c3, .int .i64 sn.k, .string sn.t, .slice sn.a1 sn.n1 sn.c1, .slice sn.a2 sn.n2 sn.c2, .slice sn.a3 sn.n3 sn.c3, .int .i64 so.k, .string so.t, .slice so.a1 so.n1 so.c1, .slice so.a2 so.n2 so.c2, .slice so.a3 so.n3 so.c3, .int .i64 su.k, .string su.t, .slice su.a1 su.n1 su.c1, .slice su.a2 su.n2 su.c2, .slice su.a3 su.n3 su.c3] 28)
      go_wp2_with fail
      clear zah za0 za1 za2 za3 za4 zbh zb0 zb1 zb2 zb3 zb4 zch zc0 zc1 zc2 zc3 zc4 zdh zd0 zd1 zd2 zd3 zd4 zfh zf0 zf1 zf2 zf3 zf4 zgh zg0 zg1 zg2 zg3 zg4 zhh zh0 zh1 zh2 zh3 zh4 zkh zk0 zk1 zk2 zk3 zk4 znh zn0 zn1 zn2 zn3 zn4 zoh zo0 zo1 zo2 zo3 zo4 zuh zu0 zu1 zu2 zu3 zu4 hVo33
      have HALL : Hid (∀ y, y < 11 → ∃ s : SV, (Vo33.cell? ⟨u32.heap.size, y * 5, none⟩ = some (.int .i64 s.k) ∧ Vo33.cell? ⟨u32.heap.size, y * 5 + 1, none⟩ = some (.string s.t) ∧ Vo33.cell? ⟨u32.heap.size, y * 5 + 2, none⟩ = some (.slice s.a1 s.n1 s.c1) ∧ Vo33.cell? ⟨u32.heap.size, y * 5 + 3, none⟩ = some (.slice s.a2 s.n2 s.c2) ∧ Vo33.cell? ⟨u32.heap.size, y * 5 + 4, none⟩ = some (.slice s.a3 s.n3 s.c3)) ∧ Spo wo.heap.size u32 s) := fun y hy => by
        have : y = 0 ∨ y = 1 ∨ y = 2 ∨ y = 3 ∨ y = 4 ∨ y = 5 ∨ y = 6 ∨ y = 7 ∨ y = 8 ∨ y = 9 ∨ y = 10 := by omega
        rcases this with rfl | rfl | rfl | rfl | rfl | rfl | rfl | rfl | rfl | rfl | rfl
        · exact ⟨sa, ⟨by simp [World.cell?, BA], by simp [World.cell?, BA], by simp [World.cell?, BA], by simp [World.cell?, BA], by simp [World.cell?, BA]⟩, Ra⟩
        · exact ⟨sb, ⟨by simp [World.cell?, BA], by simp [World.cell?, BA], by simp [World.cell?, BA], by simp [World.cell?, BA], by simp [World.cell?, BA]⟩, Rb⟩
        · exact ⟨sc, ⟨by simp [World.cell?, BA], by simp [World.cell?, BA], by simp [World.cell?, BA], by simp [World.cell?, BA], by simp [World.cell?, BA]⟩, Rc⟩
        · exact ⟨sd, ⟨by simp [World.cell?, BA], by simp [World.cell?, BA], by simp [World.cell?, BA], by simp [World.cell?, BA], by simp [World.cell?, BA]⟩, Rd⟩
        · exact ⟨sf, ⟨by simp [World.cell?, BA], by simp [World.cell?, BA], by simp [World.cell?, BA], by simp [World.cell?, BA], by simp [World.cell?, BA]⟩, Rf⟩
        · exact ⟨sg, ⟨by simp [World.cell?, BA], by simp [World.cell?, BA], by simp [World.cell?, BA], by simp [World.cell?, BA], by simp [World.cell?, BA]⟩, Rg⟩
        · exact ⟨sh, ⟨by simp [World.cell?, BA], by simp [World.cell?, BA], by simp [World.cell?, BA], by simp [World.cell?, BA], by simp [World.cell?, BA]⟩, Rh⟩
        · exact ⟨sk, ⟨by simp [World.cell?, BA], by simp [World.cell?, BA], by simp [World.cell?, BA], by simp [World.cell?, BA], by simp [World.cell?, BA]⟩, Rk⟩
        · exact ⟨sn, ⟨by simp [World.cell?, BA], by simp [World.cell?, BA], by simp [World.cell?, BA], by simp [World.cell?, BA], by simp [World.cell?, BA]⟩, Rn⟩
        · exact ⟨so, ⟨by simp [World.cell?, BA], by simp [World.cell?, BA], by simp [World.cell?, BA], by simp [World.cell?, BA], by simp [World.cell?, BA]⟩, Ro⟩
        · exact ⟨su, ⟨by simp [World.cell?, BA], by simp [World.cell?, BA], by simp [World.cell?, BA], by simp [World.cell?, BA], by simp [World.cell?, BA]⟩, Ru⟩
      have HS0 : Hid (Soft u32 Vo33) := Soft.below AVo33
      clear Ra Rb Rc Rd Rf Rg Rh Rk Rn Ro Ru
      go_loopw [59] (fun iv wr => ∃ y : Nat, y ≤ 11 ∧ iv = .int .i64 y ∧ Hid (Kept (rg wo.heap.size u32.heap.size) Vo33 wr) ∧ Hid (Soft Vo33 wr)) (fun iv _ => 11 - (intOf iv).toNat)
      case atStart => exact ⟨0, by omega, rfl, Kept.refl _ _, Soft.refl _⟩
      case round =>
        obtain ⟨y, hy, rfl, hK, hS⟩ := hrel
        obtain ⟨wi, hwi⟩ : ∃ wi, wi = wr := ⟨wr, rfl⟩
        subst hwi
        by_cases hly : y < 11
        · have hly' : ((y : Nat) : Int) < 11 := by omega
          obtain ⟨s, ⟨d0, d1, d2, d3, d4⟩, hs⟩ := HALL.out y hly
          have hn : ¬ rg wo.heap.size u32.heap.size u32.heap.size := fun h => Nat.lt_irrefl _ h.2
          have d0 := hK.out.cell' d0 hn
          have d1 := hK.out.cell' d1 hn
          have d2 := hK.out.cell' d2 hn
          have d3 := hK.out.cell' d3 hn
          have d4 := hK.out.cell' d4 hn
          have HSS := hide (HSi wi wo.heap.size u32.heap.size s ((hs.w1.soft HS0.out).soft hS.out) ((hs.w2.soft HS0.out).soft hS.out) ((hs.w3.soft HS0.out).soft hS.out) hs.m1 hs.m2 hs.m3)
          clear hs hn
          go_wp2_with fail
          refine HSS.out.mono ?_
          rintro e y1 ⟨rfl, k1, t1⟩
          have HK1 : Hid (Kept (rg wo.heap.size u32.heap.size) Vo33 y1) := hK.out.trans k1
          have HT1 : Hid (Soft Vo33 y1) := hS.out.trans t1
          clear d0 d1 d2 d3 d4 HSS k1 t1
          go_wp2_with fail
          go_roundw
          case rel => exact ⟨y + 1, by omega, by go_num, HK1, HT1⟩
          case measure => simp [intOf]; omega
        · have hgy : ¬ ((y : Nat) : Int) < 11 := by omega
          go_wp2_with fail
          refine (HSx wi wo.heap.size u32.heap.size _ _ _ (Rr.1.soft (HS0.out.trans hS.out)) Rr.2).mono ?_
          rintro e z0 ⟨rfl, kz0, tz0⟩
          go_wp2_with fail
          refine (HSx z0 wo.heap.size u32.heap.size _ _ _ (Rm.1.soft ((HS0.out.trans hS.out).trans tz0)) Rm.2).mono ?_
          rintro e z1 ⟨rfl, kz1, tz1⟩
          go_wp2_with fail
          refine (HSx z1 wo.heap.size u32.heap.size _ _ _ (Rj.1.soft (((HS0.out.trans hS.out).trans tz0).trans tz1)) Rj.2).mono ?_
          rintro e z2 ⟨rfl, kz2, tz2⟩
          go_wp2_with fail
          refine (HSx z2 wo.heap.size u32.heap.size _ _ _ (Rt.1.soft ((((HS0.out.trans hS.out).trans tz0).trans tz1).trans tz2)) Rt.2).mono ?_
          rintro e z3 ⟨rfl, kz3, tz3⟩
          go_wp2_with fail
          have HF : Hid (Below Vw15.heap.size Vw15 z3) := bQ HBR.out (HC.out.trans (((AVo33 : Below u32.heap.size u32 Vo33).mono HC.out.size).trans (((((hK.out.trans kz0).trans kz1).trans kz2).trans kz3).below (Nat.le_trans HC.out.size (AVo33 : Below u32.heap.size u32 Vo33).size) (fun k h => h.1))))
          go_roundw
          case rel => exact ⟨k + 1, by omega, by go_num, HF.out⟩
          case measure => simp [intOf]; omega
    · have hge : ¬ ((k : Nat) : Int) < 2 := by omega
      go_wp2_with fail
      go_ret
      exact ⟨rfl, bQ cW0 hbr⟩
end Go.Proofs.YtcidoodaiimhfaaGreat

/- What RestItems calls, in the forms that its walk asks for. -/
namespace Go.Proofs.YtcidoodaiimhfaaGreat
open Go.RowKit

theorem trimI_lenQ (x : Itm) (f t : Int) : (trimI x f t).l.length ≤ 281474976710656 := by
  by_cases h0 : asI x 2 = 0
  · obtain ⟨-, h24, -⟩ := asI_list h0
    rw [trimI, if_pos h0, lstI_l']
    have := keptTo_len (trimGo (place1 x.l.length f t) (place2 x.l.length f t)) x.l x.l.length
    unfold trimK
    omega
  · rw [trimI, if_neg h0]
    simp [Itm.none]
theorem those_lenQ (p : ByteArray → Nat → Bool) (xs : List Itm) (h : (xs.map Itm.l).flatten.length ≤ 281474976710656) : (if setsF xs = 0 then thoseL p (xs.map Itm.l) else []).length ≤ 281474976710656 := by
  split
  · have h1 := addT_len [] ((xs.map Itm.l).flatten.filter fun s => p s (cntL (xs.map Itm.l) s))
    have h2 := List.length_filter_le (fun s => p s (cntL (xs.map Itm.l) s)) (xs.map Itm.l).flatten
    unfold thoseL
    simp only [List.length_nil] at h1
    omega
  · simp
theorem encI_lenQ {x : Itm} (h : chkI x = 0) : (encI x).length ≤ 20000 := by
  have R := right_of h
  have ht := R.tz
  have h1 := flat_len encT 200 x.l (fun t ht => encT_len (R.lz t ht))
  have h2 := flat_len encP 200 x.p (fun t ht => by
    have h1 := (R.pz t ht).1
    have h2 := (R.pz t ht).2
    unfold encP encT
    rw [List.length_append, List.length_cons, List.length_cons, size_list, size_list]
    omega)
  have h3 := flat_len encS 200 x.s (fun t ht => by
    have h1 := R.sz t ht
    unfold encS num4 encT
    simp only [List.length_append, List.length_cons, List.length_nil, size_list]
    omega)
  have h4 := R.ln
  have h5 := R.pn
  have h6 := R.sn
  unfold encI bodyI
  split
  · rw [List.length_cons, size_list]
    omega
  · simp only [List.length_append, List.length_cons]
    omega
theorem encV_sizeQ (x : Itm) : ByteArray.size ⟨(encV x).toArray⟩ ≤ 281474976710656 := by
  show (encV x).toArray.size ≤ _
  unfold encV
  split
  · rename_i h
    have := encI_lenQ h
    simp
    omega
  · simp
theorem itemsQ1 {W : World} {x : Itm} {g T : Nat} {i1 i2 i3 : Option Addr} {j1 j2 j3 : Nat} (h : ItemIs W (.agg #[.int .i64 x.k, .string x.t, .slice i1 x.l.length j1, .slice i2 x.p.length j2, .slice i3 x.s.length j3]) x)
    (hg : W.heap[g]? = some (.cells #[.int .i64 x.k, .string x.t, .slice i1 x.l.length j1, .slice i2 x.p.length j2, .slice i3 x.s.length j3] T (0, 0))) : ItemsAt W (some ⟨g, 0, none⟩) [x] := by
  refine .inr ⟨g, 0, rfl, fun i hi => ?_⟩
  match i, hi with
  | 0, _ => exact ⟨_, _, _, _, _, _, ⟨by simp [World.cell?, hg], by simp [World.cell?, hg], by simp [World.cell?, hg], by simp [World.cell?, hg], by simp [World.cell?, hg]⟩, h⟩
theorem itemsQ2 {W : World} {x : Itm} {g T : Nat} {i1 i2 i3 : Option Addr} {j1 j2 j3 : Nat} (h : ItemIs W (.agg #[.int .i64 x.k, .string x.t, .slice i1 x.l.length j1, .slice i2 x.p.length j2, .slice i3 x.s.length j3]) x)
    (hg : W.heap[g]? = some (.cells #[.int .i64 x.k, .string x.t, .slice i1 x.l.length j1, .slice i2 x.p.length j2, .slice i3 x.s.length j3, .int .i64 x.k, .string x.t, .slice i1 x.l.length j1, .slice i2 x.p.length j2, .slice i3 x.s.length j3] T (0, 0))) : ItemsAt W (some ⟨g, 0, none⟩) [x, x] := by
  refine .inr ⟨g, 0, rfl, fun i hi => ?_⟩
  match i, hi with
  | 0, _ => exact ⟨_, _, _, _, _, _, ⟨by simp [World.cell?, hg], by simp [World.cell?, hg], by simp [World.cell?, hg], by simp [World.cell?, hg], by simp [World.cell?, hg]⟩, h⟩
  | 1, _ => exact ⟨_, _, _, _, _, _, ⟨by simp [World.cell?, hg], by simp [World.cell?, hg], by simp [World.cell?, hg], by simp [World.cell?, hg], by simp [World.cell?, hg]⟩, h⟩
theorem own3 {P : Program} {f : Nat} {args : Array Value} {W : World} {y : Itm} {n m : Int} (h : Calls P f args W fun e w' => ∃ u, e = .returned (.tuple #[u, .int .i64 n, .int .i64 m]) ∧ ItemOwn W.heap.size w' u y ∧ Below W.heap.size W w') :
    Calls P f args W fun e w' => (∃ (s : SV) (n m : Int), e = .returned (.tuple #[.agg #[.int .i64 s.k, .string s.t, .slice s.a1 s.n1 s.c1, .slice s.a2 s.n2 s.c2, .slice s.a3 s.n3 s.c3], .int .i64 n, .int .i64 m]) ∧ Spo W.heap.size w' s) ∧ Below W.heap.size W w' :=
  h.mono fun e w' ⟨u, he, ho, hb⟩ => by
    obtain ⟨s, rfl, hs⟩ := ho.sv
    exact ⟨⟨s, _, _, he, hs⟩, hb⟩
theorem own2 {P : Program} {f : Nat} {args : Array Value} {W : World} {y : Itm} {m : Int} (h : Calls P f args W fun e w' => ∃ u, e = .returned (.tuple #[u, .int .i64 m]) ∧ ItemOwn W.heap.size w' u y ∧ Below W.heap.size W w') :
    Calls P f args W fun e w' => (∃ (s : SV) (m : Int), e = .returned (.tuple #[.agg #[.int .i64 s.k, .string s.t, .slice s.a1 s.n1 s.c1, .slice s.a2 s.n2 s.c2, .slice s.a3 s.n3 s.c3], .int .i64 m]) ∧ Spo W.heap.size w' s) ∧ Below W.heap.size W w' :=
  h.mono fun e w' ⟨u, he, ho, hb⟩ => by
    obtain ⟨s, rfl, hs⟩ := ho.sv
    exact ⟨⟨s, _, he, hs⟩, hb⟩
theorem ownT {P : Program} {f : Nat} {args : Array Value} {W : World} {l : List ByteArray} {m : Int} (hl : l.length ≤ 281474976710656) (h : Calls P f args W fun e w' => ∃ a c, e = .returned (.tuple #[.slice a l.length c, .int .i64 m]) ∧ TextsOwn W.heap.size w' a l ∧ Below W.heap.size W w') :
    Calls P f args W fun e w' => (∃ (a : Option Addr) (n c : Nat) (m : Int), e = .returned (.tuple #[.slice a n c, .int .i64 m]) ∧ SpoT W.heap.size w' a n) ∧ Below W.heap.size W w' :=
  h.mono fun _ _ ⟨a, c, he, ho, hb⟩ => ⟨⟨a, _, c, _, he, ho.wet, hl⟩, hb⟩
theorem pairs_item {W : World} {p : List (ByteArray × ByteArray)} {q : List (Int × ByteArray)} (hpz : ∀ t ∈ p, t.1.size ≤ maxLen ∧ t.2.size ≤ maxLen) (hqz : ∀ t ∈ q, t.2.size ≤ maxLen) (hp : p.length ≤ 281474976710656) (hq : q.length ≤ 281474976710656) (a b : Option Addr) (c d : Nat) (h1 : PairsAt W a p) (h2 : ScoresAt W b q) :
    ItemIs W (.agg #[.int .i64 0, .string ⟨#[]⟩, .slice none 0 0, .slice a p.length c, .slice b q.length d]) ⟨0, ⟨#[]⟩, [], p, q⟩ :=
  ⟨⟨none, 0, a, c, b, d, rfl, .inl rfl, h1, h2⟩, Nat.zero_le _, (fun _ h => by cases h), hpz, hqz, Nat.zero_le _, hp, hq⟩
theorem restItems_walk (v : Value) (x : Itm) (al : Option Addr) (cl : Nat) (l : List ByteArray) (ap : Option Addr) (cp : Nat) (p : List (ByteArray × ByteArray)) (aq : Option Addr) (cq : Nat) (q : List (Int × ByteArray)) (w : World) (h : ItemIs w v x) (hl : TextsAt w al l) (hp : PairsAt w ap p) (hq : ScoresAt w aq q)
    (hlz : ∀ t ∈ l, t.size ≤ maxLen) (hpz : ∀ t ∈ p, t.1.size ≤ maxLen ∧ t.2.size ≤ maxLen) (hqz : ∀ t ∈ q, t.2.size ≤ maxLen) (hll : l.length ≤ 1048576) (hpl : p.length ≤ 1048576) (hql : q.length ≤ 1048576) (hx1 : x.l.length ≤ 1048576) (hx2 : x.p.length ≤ 1048576) (hx3 : x.s.length ≤ 1048576) :
    Calls Tryz.prog 5 #[v, .slice al l.length cl, .slice ap p.length cp, .slice aq q.length cq] w fun e w' => e = .returned (.bool true) ∧ Below w.heap.size w w' := by
  obtain ⟨a1, c1, a2, c2, a3, c3, rfl, -, -, -⟩ := h.ex
  refine restItems_go x l p q (pushE x l) (pushI x true l) ⟨0, ⟨#[]⟩, [], p, q⟩ w a1 a2 a3 al ap aq c1 c2 c3 cl cp cq h hl hp hq (by omega) (by omega) (by omega) (fun W a b c d h1 h2 => pairs_item hpz hqz (by omega) (by omega) a b c d h1 h2)
    ?Cp ?Po ?Pu ?Pop ?Trim ?Rem ?Rng ?Sa ?Sr ?Me ?Jo ?Hp ?Hd ?Zp ?Zd ?Zr ?En ?De ?Sm ?St itemBegun_any listBegun_any setBegun_any hashBegun_any Z.scoreBegun_any ?Si ?Sx
  case Cp =>
    intro W a1 a2 a3 c1 c2 c3 h
    refine (copiedItem_any _ x W h (by omega) (by omega) (by omega)).mono fun e w' ⟨v', he, ho, hb⟩ => ?_
    obtain ⟨i1, j1, i2, j2, i3, j3, rfl, hi⟩ := ho.isOf h
    exact ⟨⟨i1, j1, i2, j2, i3, j3, he, hi⟩, hb⟩
  case Po =>
    intro W a1 a2 a3 c1 c2 c3 al cl h hl
    refine (pushOf_any _ x true al cl l W h hl hlz (by omega)).mono fun e w' ⟨u, he, ho, hb⟩ => ?_
    obtain ⟨s, rfl⟩ := ho.is.sv
    exact ⟨⟨s, _, he, ho.is⟩, hb⟩
  case Pu =>
    intro W i1 i2 i3 j1 j2 j3 al cl h hl
    refine (push_own _ x true al cl l W h hl (by omega)).mono fun e w' ⟨u, he, ho, hb⟩ => ?_
    obtain ⟨s, rfl, hs⟩ := ho.sv
    exact ⟨⟨s, _, he, hs, ho.is⟩, hb⟩
  case Pop =>
    intro W i1 i2 i3 j1 j2 j3 h
    refine (pop_own _ x false W h).mono fun e w' ⟨u, he, ho, hb⟩ => ?_
    obtain ⟨s, rfl, hs⟩ := ho.sv
    exact ⟨⟨s, _, _, he, hs⟩, hb⟩
  case Trim => exact fun W i1 i2 i3 j1 j2 j3 h => own2 (trim_own _ x 0 (-1) W h (by decide) (by decide) (by decide) (by decide))
  case Rem => exact fun W i1 i2 i3 j1 j2 j3 h => own3 (remove_own _ x _ W h)
  case Rng => exact fun W i1 i2 i3 j1 j2 j3 h => ownT (trimI_lenQ _ _ _) (listRange_own _ x 0 (-1) W h (by decide) (by decide) (by decide) (by decide))
  case Sa => exact fun W i1 i2 i3 j1 j2 j3 al cl h hl => own3 (setAdd_own _ x al cl l W h hl hlz (by omega))
  case Sr => exact fun W i1 i2 i3 j1 j2 j3 al cl h hl => own3 (setRemove_own _ x al cl l W h hl (by omega))
  case Me => exact fun W g i1 i2 i3 j1 j2 j3 h hg => ownT (those_lenQ _ _ (by simp; omega)) (meet_own2 (some ⟨g, 0, none⟩) 2 [x, x] W (itemsQ2 h hg) (by simp) (hide (.inr (by simp))) _ _ ⟨rfl, rfl⟩)
  case Jo => exact fun W g i1 i2 i3 j1 j2 j3 h hg => ownT (those_lenQ _ _ (by simp; omega)) (joinS_own2 (some ⟨g, 0, none⟩) 1 [x] W (itemsQ1 h hg) (by simp) (hide (.inr (by simp))) _ _ ⟨rfl, rfl⟩)
  case Hp => exact fun W i1 i2 i3 j1 j2 j3 al cl h hl => own3 (hashPut_own _ x al cl p W h hl hpz (by omega))
  case Hd => exact fun W i1 i2 i3 j1 j2 j3 al cl h hl => own3 (hashDrop_own _ x al cl l W h hl (by omega))
  case Zp => exact fun W i1 i2 i3 j1 j2 j3 al cl h hl => own3 (Z.scorePut_own _ x al cl q W h hl (by omega))
  case Zd => exact fun W i1 i2 i3 j1 j2 j3 al cl h hl => own3 (Z.scoreDrop_own _ x al cl l W h hl (by omega))
  case Zr => exact fun W i1 i2 i3 j1 j2 j3 h => ownT (Nat.le_trans (Z.askS_len _ _) (by decide)) (Z.scoreRange_own _ x 0 (-1) W h (by omega) (by decide) (by decide) (by decide) (by decide))
  case En => exact fun W i1 i2 i3 j1 j2 j3 h => (encode_any _ x W h).mono fun _ _ ⟨he, hb⟩ => ⟨⟨_, _, he, encV_sizeQ x⟩, hb⟩
  case De => exact fun W s hs => own2 ((decode_own s W hs).mono fun _ _ ⟨u, he, ho, hb⟩ => ⟨u, he, fun w2 hw => ho w2 hw, hb⟩)
  case Sm =>
    intro W v u y h1 h2
    have hh := sameItem_any v u y y W h1 h2
    rw [sameI_refl] at hh
    exact hh
  case St =>
    intro W a b c d h1 h2
    have hh := sameT_any a b c d l l W h1 h2 (by omega)
    rw [decide_eq_true rfl] at hh
    exact hh
  case Si => exact fun W B C s h1 h2 h3 m1 m2 m3 => spoilItem_any B C s.k s.t s.a1 s.n1 s.c1 s.a2 s.n2 s.c2 s.a3 s.n3 s.c3 W h1 h2 h3 m1 m2 m3
  case Sx => exact fun W B C a c n h hn => spoilTexts_any B C a c n W h hn
end Go.Proofs.YtcidoodaiimhfaaGreat

/- What the readings of items give. -/
namespace Go.Proofs.YtcidoodaiimhfaaGreat
open Go.RowKit Go.ChangeShapes Go.WideShapes Go.ChangeAt Go.Deep

theorem pick_list {α : Type} {len : Nat} {p : Nat → α → Prop} (h : ∀ i, i < len → ∃ x, p i x) : ∃ L : List α, L.length = len ∧ ∀ i (hi : i < L.length), p i L[i] := by
  induction len with
  | zero => exact ⟨[], rfl, fun i hi => by simp at hi⟩
  | succ n ih =>
    obtain ⟨L, hl, hp⟩ := ih (fun i hi => h i (by omega))
    obtain ⟨x, hx⟩ := h n (by omega)
    refine ⟨L ++ [x], by simp [hl], fun i hi => ?_⟩
    by_cases hlt : i < L.length
    · rw [List.getElem_append_left hlt]; exact hp i hlt
    · have : i = L.length := by simp at hi; omega
      subst this
      simp only [List.getElem_append_right (Nat.le_refl _), Nat.sub_self, List.getElem_cons_zero]
      rw [hl]
      exact hx
theorem spot_none {w : World} {a : Addr} {v : Value} (h : w.cell? a = some v) : a.spot = none := by
  cases hs : a.spot with
  | none => rfl
  | some x =>
    exfalso
    unfold World.cell? at h
    split at h
    · simp [hs] at h
    · simp at h
theorem plain_addr {a : Addr} (h : a.spot = none) : ∃ b off, a = ⟨b, off, none⟩ := by
  cases a with
  | mk b o s => simp only at h; subst h; exact ⟨b, o, rfl⟩
theorem plus_at (b off i : Nat) : (⟨b, off, none⟩ : Addr).add i = ⟨b, off + i, none⟩ := by
  unfold Addr.add
  split
  · rename_i h; subst h; rfl
  · rfl
theorem one_list {cs : List Value} (h : cs.length = 1) : ∃ c0, cs = [c0] := by
  match cs, h with
  | [c0], _ => exact ⟨c0, rfl⟩
theorem two_list {cs : List Value} (h : cs.length = 2) : ∃ c0 c1, cs = [c0, c1] := by
  match cs, h with
  | [c0, c1], _ => exact ⟨c0, c1, rfl⟩
theorem five_list {cs : List Value} (h : cs.length = 5) : ∃ c0 c1 c2 c3 c4, cs = [c0, c1, c2, c3, c4] := by
  match cs, h with
  | [c0, c1, c2, c3, c4], _ => exact ⟨c0, c1, c2, c3, c4, rfl⟩

theorem cellsItem : Tryz.prog.cellsOf 28 = 5 := by kernel_rfl
theorem cellsPair : Tryz.prog.cellsOf 87 = 2 := by kernel_rfl
theorem cellsScore : Tryz.prog.cellsOf 89 = 2 := by kernel_rfl
theorem cellsI : Tryz.prog.cellsOf 3 = 1 := by kernel_rfl
theorem cellsS : Tryz.prog.cellsOf 9 = 1 := by kernel_rfl
theorem cellsL1 : Tryz.prog.cellsOf 24 = 1 := by kernel_rfl
theorem cellsL2 : Tryz.prog.cellsOf 25 = 1 := by kernel_rfl
theorem cellsL3 : Tryz.prog.cellsOf 26 = 1 := by kernel_rfl
theorem bytesS : Tryz.prog.bytesOf 9 = 16 := by kernel_rfl
theorem bytesP : Tryz.prog.bytesOf 87 = 32 := by kernel_rfl
theorem bytesSc : Tryz.prog.bytesOf 89 = 24 := by kernel_rfl

section
variable {H : Type} {enc : TypeId × Value → H} {W : World} {held : Bool}
/-- how many there are, of the reading -/
def datLen : DataW H → Nat
  | .slice es _ => es.length
  | _ => 0
theorem texts_of_trod {n : Nat} {lv : Value} {x : DataW H × List MemPlace} (h : DataW.trod enc Tryz.prog W 0 (fun _ => true) held n 24 [lv] = some x) :
    ∃ a cap ts, lv = .slice a (List.length ts) cap ∧ TextsAt W a ts ∧ (∀ t ∈ ts, t.size ≤ maxLen) ∧ (ts.length = 0 ∨ ∃ es sp, x.1 = .slice es sp ∧ es.length = ts.length) := by
  rcases open_slice Tryz.underlying24 h with ⟨hcs, _⟩ | ⟨a, len, cap, m, n', D, Pl, hcs, _, hl, hm, hmm, hx, hcell⟩
  · simp at hcs
    exact ⟨none, 0, [], hcs, .inl rfl, by simp, .inl rfl⟩
  · simp at hcs
    have hmc : m = cap := by simpa using hmm
    subst hmc
    rw [cellsS] at hcell
    obtain ⟨rs, hrl, hrs⟩ := pick_list (len := len) (p := fun i (r : ByteArray) => W.cell? ((a.add (i * 1)).add 0) = some (.string r) ∧ r.size ≤ maxLen) (fun i hi => by
      obtain ⟨cs', hc, hd⟩ := hcell i (by omega)
      obtain ⟨hcl, _, hg⟩ := World.cells?_some hc
      obtain ⟨t, e1, _, hts⟩ := DataW.trod_string Tryz.underlying9 hd
      subst e1
      exact ⟨t, hg 0 (by omega), hts⟩)
    subst hrl
    refine ⟨some a, m, rs, hcs, ?_, ?_, .inr ⟨_, _, by rw [hx], by simp⟩⟩
    · by_cases h0 : rs = []
      · exact .inl h0
      · have hpos : 0 < rs.length := List.length_pos_iff.2 h0
        obtain ⟨b, off, rfl⟩ := plain_addr (by have e := spot_none (hrs 0 hpos).1; simpa [Addr.add] using e : a.spot = none)
        refine .inr ⟨b, off, rfl, fun i hi => ?_⟩
        have := (hrs i hi).1
        rw [plus_at, plus_at, Nat.mul_one] at this
        exact this
    · intro t ht
      obtain ⟨i, hi, rfl⟩ := List.getElem_of_mem ht
      exact (hrs i hi).2
theorem pair_parts {n : Nat} {cs : List Value} {x : DataW H × List MemPlace} (h : DataW.trod enc Tryz.prog W 0 (fun _ => true) held n 87 cs = some x) :
    ∃ t1 t2 : ByteArray, cs = [.string t1, .string t2] ∧ t1.size ≤ maxLen ∧ t2.size ≤ maxLen := by
  obtain ⟨xs, n', rfl, hx, hl, hxl, hall⟩ := DataW.trod_struct Tryz.underlying87 h
  rw [cellsPair] at hl
  obtain ⟨c0, c1, rfl⟩ := two_list hl
  have hl2 : xs.length = 2 := hxl
  have h0 : DataW.trod enc Tryz.prog W 0 (fun _ => true) held n' 9 (([c0, c1].drop 0).take (Tryz.prog.cellsOf 9)) = xs[0]? := hall 0 _ rfl
  have h1 : DataW.trod enc Tryz.prog W 0 (fun _ => true) held n' 9 (([c0, c1].drop 1).take (Tryz.prog.cellsOf 9)) = xs[1]? := hall 1 _ rfl
  clear hall
  rw [cellsS, List.getElem?_eq_getElem (by omega)] at h0 h1
  obtain ⟨t0, e0, _, s0⟩ := DataW.trod_string Tryz.underlying9 h0
  obtain ⟨t1, e1, _, s1⟩ := DataW.trod_string Tryz.underlying9 h1
  simp at e0 e1
  subst e0 e1
  exact ⟨t0, t1, rfl, s0, s1⟩
theorem score_parts {n : Nat} {cs : List Value} {x : DataW H × List MemPlace} (h : DataW.trod enc Tryz.prog W 0 (fun _ => true) held n 89 cs = some x) :
    ∃ (t1 : Int) (t2 : ByteArray), cs = [.int .i64 t1, .string t2] ∧ t2.size ≤ maxLen ∧ -9223372036854775808 ≤ t1 ∧ t1 ≤ 9223372036854775807 := by
  obtain ⟨xs, n', rfl, hx, hl, hxl, hall⟩ := DataW.trod_struct Tryz.underlying89 h
  rw [cellsScore] at hl
  obtain ⟨c0, c1, rfl⟩ := two_list hl
  have hl2 : xs.length = 2 := hxl
  have h0 : DataW.trod enc Tryz.prog W 0 (fun _ => true) held n' 3 (([c0, c1].drop 0).take (Tryz.prog.cellsOf 3)) = xs[0]? := hall 0 _ rfl
  have h1 : DataW.trod enc Tryz.prog W 0 (fun _ => true) held n' 9 (([c0, c1].drop 1).take (Tryz.prog.cellsOf 9)) = xs[1]? := hall 1 _ rfl
  clear hall
  rw [cellsI, List.getElem?_eq_getElem (by omega)] at h0
  rw [cellsS, List.getElem?_eq_getElem (by omega)] at h1
  obtain ⟨t0, e0, _, s0⟩ := DataW.trod_int Tryz.underlying3 h0
  obtain ⟨t1, e1, _, s1⟩ := DataW.trod_string Tryz.underlying9 h1
  simp at e0 e1
  subst e0 e1
  exact ⟨t0, t1, rfl, s1, bounds_i64 s0⟩
theorem pairs_of_trod {n : Nat} {lv : Value} {x : DataW H × List MemPlace} (h : DataW.trod enc Tryz.prog W 0 (fun _ => true) held n 25 [lv] = some x) :
    ∃ a cap ts, lv = .slice a (List.length ts) cap ∧ PairsAt W a ts ∧ (∀ t ∈ ts, t.1.size ≤ maxLen ∧ t.2.size ≤ maxLen) ∧ (ts.length = 0 ∨ ∃ es sp, x.1 = .slice es sp ∧ es.length = ts.length) := by
  rcases open_slice Tryz.underlying25 h with ⟨hcs, _⟩ | ⟨a, len, cap, m, n', D, Pl, hcs, _, hl, hm, hmm, hx, hcell⟩
  · simp at hcs
    exact ⟨none, 0, [], hcs, .inl rfl, by simp, .inl rfl⟩
  · simp at hcs
    have hmc : m = cap := by simpa using hmm
    subst hmc
    rw [cellsPair] at hcell
    obtain ⟨rs, hrl, hrs⟩ := pick_list (len := len) (p := fun i (t : ByteArray × ByteArray) => W.cell? ((a.add (i * 2)).add 0) = some (.string t.1) ∧ W.cell? ((a.add (i * 2)).add 1) = some (.string t.2) ∧ t.1.size ≤ maxLen ∧ t.2.size ≤ maxLen) (fun i hi => by
      obtain ⟨cs', hc, hd⟩ := hcell i (by omega)
      obtain ⟨hcl, _, hg⟩ := World.cells?_some hc
      obtain ⟨t1, t2, e1, hts⟩ := pair_parts hd
      subst e1
      exact ⟨(t1, t2), hg 0 (by omega), hg 1 (by omega), hts⟩)
    subst hrl
    refine ⟨some a, m, rs, hcs, ?_, ?_, .inr ⟨_, _, by rw [hx], by simp⟩⟩
    · by_cases h0 : rs = []
      · exact .inl h0
      · have hpos : 0 < rs.length := List.length_pos_iff.2 h0
        obtain ⟨b, off, rfl⟩ := plain_addr (by have e := spot_none (hrs 0 hpos).1; simpa [Addr.add] using e : a.spot = none)
        refine .inr ⟨b, off, rfl, fun i hi => ?_⟩
        have g1 := (hrs i hi).1
        have g2 := (hrs i hi).2.1
        rw [plus_at, plus_at] at g1 g2
        exact ⟨g1, g2⟩
    · intro t ht
      obtain ⟨i, hi, rfl⟩ := List.getElem_of_mem ht
      exact (hrs i hi).2.2
theorem scores_of_trod {n : Nat} {lv : Value} {x : DataW H × List MemPlace} (h : DataW.trod enc Tryz.prog W 0 (fun _ => true) held n 26 [lv] = some x) :
    ∃ a cap ts, lv = .slice a (List.length ts) cap ∧ ScoresAt W a ts ∧ (∀ t ∈ ts, t.2.size ≤ maxLen ∧ -9223372036854775808 ≤ t.1 ∧ t.1 ≤ 9223372036854775807) ∧ (ts.length = 0 ∨ ∃ es sp, x.1 = .slice es sp ∧ es.length = ts.length) := by
  rcases open_slice Tryz.underlying26 h with ⟨hcs, _⟩ | ⟨a, len, cap, m, n', D, Pl, hcs, _, hl, hm, hmm, hx, hcell⟩
  · simp at hcs
    exact ⟨none, 0, [], hcs, .inl rfl, by simp, .inl rfl⟩
  · simp at hcs
    have hmc : m = cap := by simpa using hmm
    subst hmc
    rw [cellsScore] at hcell
    obtain ⟨rs, hrl, hrs⟩ := pick_list (len := len) (p := fun i (t : Int × ByteArray) => W.cell? ((a.add (i * 2)).add 0) = some (.int .i64 t.1) ∧ W.cell? ((a.add (i * 2)).add 1) = some (.string t.2) ∧ t.2.size ≤ maxLen ∧ -9223372036854775808 ≤ t.1 ∧ t.1 ≤ 9223372036854775807) (fun i hi => by
      obtain ⟨cs', hc, hd⟩ := hcell i (by omega)
      obtain ⟨hcl, _, hg⟩ := World.cells?_some hc
      obtain ⟨t1, t2, e1, hts⟩ := score_parts hd
      subst e1
      exact ⟨(t1, t2), hg 0 (by omega), hg 1 (by omega), hts⟩)
    subst hrl
    refine ⟨some a, m, rs, hcs, ?_, ?_, .inr ⟨_, _, by rw [hx], by simp⟩⟩
    · by_cases h0 : rs = []
      · exact .inl h0
      · have hpos : 0 < rs.length := List.length_pos_iff.2 h0
        obtain ⟨b, off, rfl⟩ := plain_addr (by have e := spot_none (hrs 0 hpos).1; simpa [Addr.add] using e : a.spot = none)
        refine .inr ⟨b, off, rfl, fun i hi => ?_⟩
        have g1 := (hrs i hi).1
        have g2 := (hrs i hi).2.1
        rw [plus_at, plus_at] at g1 g2
        exact ⟨g1, g2⟩
    · intro t ht
      obtain ⟨i, hi, rfl⟩ := List.getElem_of_mem ht
      exact (hrs i hi).2.2

theorem weights_agg {P : Program} {t : TypeId} {fs : Array Field} {parts : List (DataW H)} (hu : P.underlying t = some (.struct fs)) (h : ((DataW.agg parts).weights P t).all (· ≤ reachBytes) = true) : (DataW.weightsEach P (fs.toList.map (·.type)) parts).all (· ≤ reachBytes) = true := by
  unfold DataW.weights at h
  rw [hu] at h
  exact h
theorem weights_at {P : Program} {ts : List TypeId} {ds : List (DataW H)} (h : (DataW.weightsEach P ts ds).all (· ≤ reachBytes) = true) {j : Nat} {t : TypeId} {d : DataW H} (ht : ts[j]? = some t) (hd : ds[j]? = some d) : (d.weights P t).all (· ≤ reachBytes) = true := by
  rw [List.all_eq_true] at h ⊢
  intro n hn
  exact h n (DataW.weights_mem_each ht hd n hn)

set_option maxRecDepth 100000 in
theorem item_cells {n : Nat} {cs : List Value} {x : DataW H × List MemPlace} (h : DataW.trod enc Tryz.prog W 0 (fun _ => true) held n 28 cs = some x) (hw : (x.1.weights Tryz.prog 28).all (· ≤ reachBytes) = true) :
    ∃ y : Itm, ItemIs W (.agg cs.toArray) y := by
  obtain ⟨xs, n', rfl, hx, hl, hxl, hall⟩ := DataW.trod_struct Tryz.underlying28 h
  rw [cellsItem] at hl
  obtain ⟨c0, c1, c2, c3, c4, rfl⟩ := five_list hl
  have hl5 : xs.length = 5 := hxl
  have h0 : DataW.trod enc Tryz.prog W 0 (fun _ => true) held n' 3 (([c0, c1, c2, c3, c4].drop 0).take (Tryz.prog.cellsOf 3)) = xs[0]? := hall 0 _ rfl
  have h1 : DataW.trod enc Tryz.prog W 0 (fun _ => true) held n' 9 (([c0, c1, c2, c3, c4].drop 1).take (Tryz.prog.cellsOf 9)) = xs[1]? := hall 1 _ rfl
  have h2 : DataW.trod enc Tryz.prog W 0 (fun _ => true) held n' 24 (([c0, c1, c2, c3, c4].drop 2).take (Tryz.prog.cellsOf 24)) = xs[2]? := hall 2 _ rfl
  have h3 : DataW.trod enc Tryz.prog W 0 (fun _ => true) held n' 25 (([c0, c1, c2, c3, c4].drop 3).take (Tryz.prog.cellsOf 25)) = xs[3]? := hall 3 _ rfl
  have h4 : DataW.trod enc Tryz.prog W 0 (fun _ => true) held n' 26 (([c0, c1, c2, c3, c4].drop 4).take (Tryz.prog.cellsOf 26)) = xs[4]? := hall 4 _ rfl
  clear hall
  rw [cellsI, List.getElem?_eq_getElem (by omega)] at h0
  rw [cellsS, List.getElem?_eq_getElem (by omega)] at h1
  rw [cellsL1, List.getElem?_eq_getElem (by omega)] at h2
  rw [cellsL2, List.getElem?_eq_getElem (by omega)] at h3
  rw [cellsL3, List.getElem?_eq_getElem (by omega)] at h4
  obtain ⟨k, e0, _, _⟩ := DataW.trod_int Tryz.underlying3 h0
  obtain ⟨t, e1, _, hts⟩ := DataW.trod_string Tryz.underlying9 h1
  simp at e0 e1
  subst e0 e1
  obtain ⟨a1, p1, l1, e2, i2, s2, w2⟩ := texts_of_trod h2
  obtain ⟨a2, p2, l2, e3, i3, s3, w3⟩ := pairs_of_trod h3
  obtain ⟨a3, p3, l3, e4, i4, s4, w4⟩ := scores_of_trod h4
  subst e2 e3 e4
  rw [hx] at hw
  have hws := weights_agg Tryz.underlying28 hw
  have hrb := reachBytes_lt
  have b1 : l1.length ≤ 281474976710656 := by
    rcases w2 with w2 | ⟨es, sp, we, wl⟩
    · omega
    · have := sized_slice hws (elems := es) (spare := sp) (j := 2) (t := 24) rfl (by simp [hl5, we]) Tryz.underlying24
      rw [bytesS] at this
      omega
  have b2 : l2.length ≤ 281474976710656 := by
    rcases w3 with w3 | ⟨es, sp, we, wl⟩
    · omega
    · have := sized_slice hws (elems := es) (spare := sp) (j := 3) (t := 25) rfl (by simp [hl5, we]) Tryz.underlying25
      rw [bytesP] at this
      omega
  have b3 : l3.length ≤ 281474976710656 := by
    rcases w4 with w4 | ⟨es, sp, we, wl⟩
    · omega
    · have := sized_slice hws (elems := es) (spare := sp) (j := 4) (t := 26) rfl (by simp [hl5, we]) Tryz.underlying26
      rw [bytesSc] at this
      omega
  exact ⟨⟨k, t, l1, l2, l3⟩, ⟨⟨a1, p1, a2, p2, a3, p3, rfl, i2, i3, i4⟩, hts, s2, s3, fun y hy => (s4 y hy).1, b1, b2, b3⟩⟩
set_option maxRecDepth 100000 in
theorem item_of_trod {base : Nat} {v : Value} {d : DataW H} {pl : List MemPlace} (hv : Value.okWide Tryz.prog W .any base 28 v) (h : DataW.Trod enc Tryz.prog W 0 (fun _ => true) held 28 v d pl) (hw : (d.weights Tryz.prog 28).all (· ≤ reachBytes) = true) :
    ∃ y : Itm, ItemIs W v y := by
  obtain ⟨cs, rfl, _⟩ := okWide_struct Tryz.underlying28 hv
  obtain ⟨fuel, hf⟩ := h
  obtain ⟨y, hy⟩ := item_cells hf hw
  have hy2 : ItemIs W (.agg (Value.agg cs).cells) y := by simpa using hy
  exact ⟨y, hy2⟩
set_option maxRecDepth 100000 in
theorem list_of_trod {base : Nat} {v : Value} {d : DataW H} {pl : List MemPlace} (hv : Value.okWide Tryz.prog W .any base 24 v) (h : DataW.Trod enc Tryz.prog W 0 (fun _ => true) held 24 v d pl) (hw : (d.weights Tryz.prog 24).all (· ≤ reachBytes) = true) :
    ∃ a c l, v = .slice a (List.length l) c ∧ TextsAt W a l ∧ (∀ t ∈ l, t.size ≤ maxLen) ∧ l.length ≤ 8796093022208 := by
  obtain ⟨a0, n0, c0, rfl⟩ := okWide_slice Tryz.underlying24 hv
  obtain ⟨fuel, hf⟩ := h
  obtain ⟨a, c, l, e, i, z, wl⟩ := texts_of_trod (lv := .slice a0 n0 c0) hf
  refine ⟨a, c, l, e, i, z, ?_⟩
  rcases wl with wl | ⟨es, sp, we, hl⟩
  · omega
  · have hws : (DataW.weightsEach Tryz.prog [24] [d]).all (· ≤ reachBytes) = true := by
      rw [DataW.weightsEach, DataW.weightsEach, List.append_nil]
      exact hw
      all_goals simp
    have hrb := reachBytes_lt
    have := sized_slice hws (elems := es) (spare := sp) (j := 0) (t := 24) rfl (by rw [← we]; rfl) Tryz.underlying24
    rw [bytesS] at this
    omega
end
end Go.Proofs.YtcidoodaiimhfaaGreat

