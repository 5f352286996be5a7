/-
  WHAT IS PROVED: for every space, every time, every key, every item, every until and every pattern, the call of SpaceTells returns true, and its arguments read afterwards as they read before.
  CONDITIONS: none.
-/
import Derived.Test.YtcidoodaiimhfaaGreatYTells
import Derived.Test.YtcidoodaiimhfaaGreatPart5
import Derived.WalkKit
import Derived.ProofKit
import Derived.OpenShut
import Derived.MakeChecks
import Derived.Deep.DeepHandedRow
import Derived.Lay
import Derived.SizedLaws
namespace Go.Proofs.YtcidoodaiimhfaaGreat.spaceTells
open Go.ChangeShapes Go.WideShapes Go.ChangeAt Go.RowKit
open Go.ChangeMaps (open_string shut_string)

theorem own : ownKnob Tryz.prog.godebug = none := by kernel_rfl
theorem laidOut : laidOutB Tryz.prog = true := by kernel_rfl
theorem readItem : Tryz.prog.readableRec 28 = true := by kernel_rfl
theorem inItem : 28 < Tryz.prog.types.size := of_decide_eq_true (by kernel_rfl)
theorem readSpace : Tryz.prog.readableRec 23 = true := by kernel_rfl
theorem inSpace : 23 < Tryz.prog.types.size := of_decide_eq_true (by kernel_rfl)

set_option maxRecDepth 100000 in
theorem contract (H : Type) (enc : TypeId × Value → H) (W : World) (base : Nat) (args : Array Value) (ds gs : List (DataW H)) (before : List MemPlace)
    (hval : ∀ (j : Nat) t v, Tryz.f3.params[j]? = some t → args[j]? = some v → Value.okWide Tryz.prog W .any base t v)
    (hW : DataW.Whole enc Tryz.prog Tryz.f3.params.toList Rows.spaceTellsSpec.vars false W args.toList ds gs before) (hk : (DataW.weightsEach Tryz.prog (Tryz.f3.params.toList ++ (OpenSpec.ofChange Rows.spaceTellsSpec).bare.plain.varTypes Tryz.prog) (ds ++ gs)).all (· ≤ reachBytes) = true) :
    Calls Tryz.prog 3 args W fun e W' => ∃ v, e = .returned v ∧ Rows.spaceTellsSpec.post enc Tryz.prog Tryz.f3 false true false false W args v W' := by
  have hW' := hW
  obtain ⟨p, q, hA0, hV, rfl, hfz, hnd⟩ := hW
  have hA : DataW.TrodAll enc Tryz.prog W 0 (fun _ => true) true Tryz.f3.params.toList args.toList ds p := hA0
  rw [Tryz.params3] at hA hval
  obtain ⟨v0, vs0, d0, ds0, p0, q0, hargs, rfl, rfl, h0, r0⟩ := trodAll_cons hA
  obtain ⟨v1, vs1, d1, ds1, p1, q1, rfl, rfl, rfl, h1, r1⟩ := trodAll_cons r0
  obtain ⟨v2, vs2, d2, ds2, p2, q2, rfl, rfl, rfl, h2, r2⟩ := trodAll_cons r1
  obtain ⟨v3, vs3, d3, ds3, p3, q3, rfl, rfl, rfl, h3, r3⟩ := trodAll_cons r2
  obtain ⟨v4, vs4, d4, ds4, p4, q4, rfl, rfl, rfl, h4, r4⟩ := trodAll_cons r3
  obtain ⟨v5, vs5, d5, ds5, p5, q5, rfl, rfl, rfl, h5, r5⟩ := trodAll_cons r4
  obtain ⟨rfl, rfl, rfl⟩ := trodAll_nil r5
  obtain rfl : args = #[v0, v1, v2, v3, v4, v5] := by cases args; simp_all
  obtain ⟨rfl, rfl⟩ := trodVars_none hV
  obtain ⟨a0, c0, s0, rfl, i0, u0⟩ := space_of_trod (hval 0 23 v0 rfl rfl) h0 (weights_at hk (j := 0) (t := 23) (by rw [Tryz.params3]; rfl) rfl)
  obtain ⟨n1, rfl, rfl, rfl, wf1⟩ := open_int Tryz.underlying3 (hval 1 3 v1 rfl rfl) h1
  obtain ⟨s2, rfl, rfl, rfl, hmax2⟩ := open_string Tryz.underlying9 (hval 2 9 v2 rfl rfl) h2
  obtain ⟨x3, i3⟩ := item_of_trod (hval 3 28 v3 rfl rfl) h3 (weights_at hk (j := 3) (t := 28) (by rw [Tryz.params3]; rfl) rfl)
  obtain ⟨n4, rfl, rfl, rfl, wf4⟩ := open_int Tryz.underlying3 (hval 4 3 v4 rfl rfl) h4
  obtain ⟨s5, rfl, rfl, rfl, hmax5⟩ := open_string Tryz.underlying9 (hval 5 9 v5 rfl rfl) h5
  clear hA0
  simp only [List.append_nil] at hW'
  have hlt : ∀ x ∈ p0 ++ p3, x.block < W.heap.size := fun x hx => by simpa using hW'.lt x (by simpa using hx)
  obtain ⟨lo1, hi1⟩ := bounds_i64 wf1
  have hbd2 : s2.data.toList.length ≤ reachBytes := sized_string hk (j := 2) (t := 9) (by rw [Tryz.params3]; rfl) rfl
  have hsl2 : s2.data.toList.length = s2.size := size_list s2
  obtain ⟨lo4, hi4⟩ := bounds_i64 wf4
  have hbd5 : s5.data.toList.length ≤ reachBytes := sized_string hk (j := 5) (t := 9) (by rw [Tryz.params3]; rfl) rfl
  have hsl5 : s5.data.toList.length = s5.size := size_list s5
  have hrb := reachBytes_lt
  refine (spaceTells_walk a0 c0 s0 n1 s2 v3 x3 n4 s5 W i0 u0 i3).mono fun e W' ⟨he, hb⟩ => ?_
  subst he
  have hback : DataW.TrodAll enc Tryz.prog W' 0 (fun b => decide (b < W.heap.size)) true [23, 3, 9, 28, 3, 9] [.slice a0 s0.length c0, .int .i64 n1, .string s2, v3, .int .i64 n4, .string s5] [d0, .lit (.int .i64 n1), .lit (.string s2.data.toList), d3, .lit (.int .i64 n4), .lit (.string s5.data.toList)] (p0 ++ p3) := by
    simpa using trodAll_cons_mk (Below.trod laidOut readSpace inSpace h0 hb (fun z hz => hlt z (by simp [hz]))) (trodAll_cons_mk (shut_int Tryz.underlying3 wf1) (trodAll_cons_mk (shut_string Tryz.underlying9 hmax2) (trodAll_cons_mk (Below.trod laidOut readItem inItem h3 hb (fun z hz => hlt z (by simp [hz]))) (trodAll_cons_mk (shut_int Tryz.underlying3 wf4) (trodAll_cons_mk (shut_string Tryz.underlying9 hmax5) (trodAll_mk0))))))
  exact ⟨_, rfl, _, _, _, [], p0 ++ p3, [], hW', trodAll_cons_mk (shut_bool Tryz.underlying4 _) trodAll_mk0, hback, rfl, hb.frame _, fun h => by cases h⟩

theorem laid_metH (os : Os) : laidMetH Tryz.prog Rows.spaceTellsRow.laid ((World.laidAll Tryz.prog os Rows.spaceTellsRow.laid).forCall (fun _ _ => 0) ⟨#[], #[.slice none 0 0, .int .i64 0, .string ⟨#[]⟩, .agg #[.int .i64 0, .string ⟨#[]⟩, .slice none 0 0, .slice none 0 0, .slice none 0 0], .int .i64 0, .string ⟨#[]⟩], []⟩).memory := by
  rw [Go.MakeChecks.laidMetH_plain _ _ _ (by kernel_rfl)]
  exact laidMet_laidAll _ (by kernel_rfl) (by kernel_rfl)
theorem reads (os : Os) {H : Type} (enc : TypeId × Value → H) : ∃ places, DataW.whole enc Tryz.prog ((World.laidAll Tryz.prog os Rows.spaceTellsRow.laid).forCall (fun _ _ => 0) ⟨#[], #[.slice none 0 0, .int .i64 0, .string ⟨#[]⟩, .agg #[.int .i64 0, .string ⟨#[]⟩, .slice none 0 0, .slice none 0 0, .slice none 0 0], .int .i64 0, .string ⟨#[]⟩], []⟩).memory Tryz.f3.params.toList Rows.spaceTellsSpec.vars false (#[.slice none 0 0, .int .i64 0, .string ⟨#[]⟩, .agg #[.int .i64 0, .string ⟨#[]⟩, .slice none 0 0, .slice none 0 0, .slice none 0 0], .int .i64 0, .string ⟨#[]⟩] : Array Value).toList 8 = some ([.nil, .lit (.int .i64 0), .lit (.string []), .agg [.lit (.int .i64 0), .lit (.string []), .nil, .nil, .nil], .lit (.int .i64 0), .lit (.string [])], [], places) :=
  ⟨[], by kernel_rfl⟩

set_option maxRecDepth 100000 in
theorem liftedSaid (os : Os) (started : os.Started) (H : Type) (enc : TypeId × Value → H) (F : Stop.Interp) :
    ReturnsInHanded {} Tryz.checked os 3 .any ((OpenSpec.ofChange Rows.spaceTellsSpec).preRow enc Tryz.prog Tryz.f3 Rows.spaceTellsRow.domain false Rows.spaceTellsRow.laid) (((OpenSpec.ofChange Rows.spaceTellsSpec).at F).post enc Tryz.prog Tryz.f3 false true false false) := by
  obtain ⟨places, hx⟩ := reads os enc
  refine returnsInHanded_of_row (C := Tryz.checked) (s := OpenSpec.ofChange Rows.spaceTellsSpec) own started (by kernel_rfl) Tryz.func3
    (witness_row_at (enc := enc) (C := Tryz.checked) false (World.laidAll Tryz.prog os Rows.spaceTellsRow.laid) #[.slice none 0 0, .int .i64 0, .string ⟨#[]⟩, .agg #[.int .i64 0, .string ⟨#[]⟩, .slice none 0 0, .slice none 0 0, .slice none 0 0], .int .i64 0, .string ⟨#[]⟩] (World.laidAll_os _ _ _) (by kernel_rfl) (by kernel_rfl) (by kernel_rfl)
      (OpenSpec.preRow_of_cond 8 hx (by kernel_rfl) (fun k hk => by cases hk) (by kernel_rfl) (laid_metH os))) ?_
  intro W base args ds gs before hval hW _ _ hwt _ _ _
  exact contract H enc W base args ds gs before hval hW hwt

theorem said : Rows.SpaceTellsSaid :=
  OpenClaim.holds_of_cond 3 Tryz.f3 rfl rfl rfl rfl rfl rfl rfl ⟨rfl, rfl, rfl, rfl, rfl⟩ rfl rfl rfl rfl rfl (by kernel_rfl) Tryz.func3 (by kernel_rfl)
    (of_decide_eq_true (by kernel_rfl)) (by unfold Func.isWrapper; first | (rw [if_pos (by decide +kernel)]; kernel_rfl) | (rw [if_neg (by decide +kernel)]; exact ⟨rfl, rfl⟩))
    (fun os started H enc _ F => by rw [OpenClaim.pre_eq_preRow]; exact liftedSaid os started H enc F)
end Go.Proofs.YtcidoodaiimhfaaGreat.spaceTells
namespace Go.Proofs.YtcidoodaiimhfaaGreat
theorem spaceTells_holds : Rows.SpaceTellsSaid := spaceTells.said
end Go.Proofs.YtcidoodaiimhfaaGreat
