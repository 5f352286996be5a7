/-
  WHAT IS PROVED: for every item, every list of texts, every list of pairs and every list of scores, the call of RestItems returns true, and its arguments read afterwards as they read before.
  CONDITIONS: what is read is of bulk at most 1048576.
-/
import Derived.Test.YtcidoodaiimhfaaGreatPart7
import Derived.Test.YtcidoodaiimhfaaGreatPart8
import Derived.WalkKit
import Derived.ProofKit
import Derived.OpenShut
import Derived.MakeChecks
import Derived.Deep.DeepHandedRow
import Derived.Lay
import Derived.SizedLaws
namespace Go.Proofs.YtcidoodaiimhfaaGreat.restItems
open Go.ChangeShapes Go.WideShapes Go.ChangeAt Go.RowKit
open Go.ChangeMaps (open_string shut_string)

theorem own : ownKnob Tryz.prog.godebug = none := by kernel_rfl
theorem laidOut : laidOutB Tryz.prog = true := by kernel_rfl
theorem readItem : Tryz.prog.readableRec 28 = true := by kernel_rfl
theorem inItem : 28 < Tryz.prog.types.size := of_decide_eq_true (by kernel_rfl)
theorem readList : Tryz.prog.readableRec 24 = true := by kernel_rfl
theorem inList : 24 < Tryz.prog.types.size := of_decide_eq_true (by kernel_rfl)
theorem readPairs : Tryz.prog.readableRec 25 = true := by kernel_rfl
theorem inPairs : 25 < Tryz.prog.types.size := of_decide_eq_true (by kernel_rfl)
theorem readScores : Tryz.prog.readableRec 26 = true := by kernel_rfl
theorem inScores : 26 < Tryz.prog.types.size := of_decide_eq_true (by kernel_rfl)

set_option maxRecDepth 100000 in
theorem contract (H : Type) (enc : TypeId × Value → H) (W : World) (base : Nat) (args : Array Value) (ds gs : List (DataW H)) (before : List MemPlace)
    (hval : ∀ (j : Nat) t v, Tryz.f5.params[j]? = some t → args[j]? = some v → Value.okWide Tryz.prog W .any base t v)
    (hW : DataW.Whole enc Tryz.prog Tryz.f5.params.toList Rows.restItemsSpec.vars false W args.toList ds gs before) (hk : (DataW.weightsEach Tryz.prog (Tryz.f5.params.toList ++ (Rows.OpenSpec.upto Rows.restItemsSpec).bare.plain.varTypes Tryz.prog) (ds ++ gs)).all (· ≤ reachBytes) = true) (hk2 : Rows.uptoSmall H (ds ++ gs) = true) :
    Calls Tryz.prog 5 args W fun e W' => ∃ v, e = .returned v ∧ Rows.restItemsSpec.post enc Tryz.prog Tryz.f5 false true false false W args v W' := by
  have hW' := hW
  obtain ⟨p, q, hA0, hV, rfl, hfz, hnd⟩ := hW
  have hA : DataW.TrodAll enc Tryz.prog W 0 (fun _ => true) true Tryz.f5.params.toList args.toList ds p := hA0
  rw [Tryz.params5] at hA hval
  obtain ⟨v0, vs0, d0, ds0, p0, q0, hargs, rfl, rfl, h0, r0⟩ := trodAll_cons hA
  obtain ⟨v1, vs1, d1, ds1, p1, q1, rfl, rfl, rfl, h1, r1⟩ := trodAll_cons r0
  obtain ⟨v2, vs2, d2, ds2, p2, q2, rfl, rfl, rfl, h2, r2⟩ := trodAll_cons r1
  obtain ⟨v3, vs3, d3, ds3, p3, q3, rfl, rfl, rfl, h3, r3⟩ := trodAll_cons r2
  obtain ⟨rfl, rfl, rfl⟩ := trodAll_nil r3
  obtain rfl : args = #[v0, v1, v2, v3] := by cases args; simp_all
  obtain ⟨rfl, rfl⟩ := trodVars_none hV
  have kb0 := bulk_part (d := d0) (by simp) hk2
  obtain ⟨x0, i0, ul0, up0, us0⟩ := item_of_trodU (hval 0 28 v0 rfl rfl) h0 kb0
  obtain ⟨a1, c1, l1, rfl, i1, z1, u1⟩ := list_of_trodU (hval 1 24 v1 rfl rfl) h1
  have ub1 : l1.length ≤ 1048576 := Nat.le_trans u1 (bulk_part (by simp) hk2)
  obtain ⟨a2, c2, l2, rfl, i2, z2, u2⟩ := pairs_of_trodU (hval 2 25 v2 rfl rfl) h2
  have ub2 : l2.length ≤ 1048576 := Nat.le_trans u2 (bulk_part (by simp) hk2)
  obtain ⟨a3, c3, l3, rfl, i3, z3, u3⟩ := scores_of_trodU (hval 3 26 v3 rfl rfl) h3
  have ub3 : l3.length ≤ 1048576 := Nat.le_trans u3 (bulk_part (by simp) hk2)
  clear hA0
  simp only [List.append_nil] at hW'
  have hlt : ∀ x ∈ p0 ++ p1 ++ p2 ++ p3, x.block < W.heap.size := fun x hx => by simpa using hW'.lt x (by simpa using hx)
  have hrb := reachBytes_lt
  refine (restItems_walk v0 x0 a1 c1 l1 a2 c2 l2 a3 c3 l3 W i0 i1 i2 i3 z1 z2 (fun t ht => (z3 t ht).1) ub1 ub2 ub3 (by omega) (by omega) (by omega)).mono fun e W' ⟨he, hb⟩ => ?_
  subst he
  have hback : DataW.TrodAll enc Tryz.prog W' 0 (fun b => decide (b < W.heap.size)) true [28, 24, 25, 26] [v0, .slice a1 l1.length c1, .slice a2 l2.length c2, .slice a3 l3.length c3] [d0, d1, d2, d3] (p0 ++ p1 ++ p2 ++ p3) := by
    simpa using trodAll_cons_mk (Below.trod laidOut readItem inItem h0 hb (fun z hz => hlt z (by simp [hz]))) (trodAll_cons_mk (Below.trod laidOut readList inList h1 hb (fun z hz => hlt z (by simp [hz]))) (trodAll_cons_mk (Below.trod laidOut readPairs inPairs h2 hb (fun z hz => hlt z (by simp [hz]))) (trodAll_cons_mk (Below.trod laidOut readScores inScores h3 hb (fun z hz => hlt z (by simp [hz]))) (trodAll_mk0))))
  exact ⟨_, rfl, _, _, _, [], p0 ++ p1 ++ p2 ++ p3, [], hW', trodAll_cons_mk (shut_bool Tryz.underlying4 _) trodAll_mk0, hback, rfl, hb.frame _, fun h => by cases h⟩

theorem laid_metH (os : Os) : laidMetH Tryz.prog Rows.restItemsUptoRow.laid ((World.laidAll Tryz.prog os Rows.restItemsUptoRow.laid).forCall (fun _ _ => 0) ⟨#[], #[.agg #[.int .i64 0, .string ⟨#[]⟩, .slice none 0 0, .slice none 0 0, .slice none 0 0], .slice none 0 0, .slice none 0 0, .slice none 0 0], []⟩).memory := by
  rw [Go.MakeChecks.laidMetH_plain _ _ _ (by kernel_rfl)]
  exact laidMet_laidAll _ (by kernel_rfl) (by kernel_rfl)
theorem reads (os : Os) {H : Type} (enc : TypeId × Value → H) : ∃ places, DataW.whole enc Tryz.prog ((World.laidAll Tryz.prog os Rows.restItemsUptoRow.laid).forCall (fun _ _ => 0) ⟨#[], #[.agg #[.int .i64 0, .string ⟨#[]⟩, .slice none 0 0, .slice none 0 0, .slice none 0 0], .slice none 0 0, .slice none 0 0, .slice none 0 0], []⟩).memory Tryz.f5.params.toList Rows.restItemsSpec.vars false (#[.agg #[.int .i64 0, .string ⟨#[]⟩, .slice none 0 0, .slice none 0 0, .slice none 0 0], .slice none 0 0, .slice none 0 0, .slice none 0 0] : Array Value).toList 8 = some ([.agg [.lit (.int .i64 0), .lit (.string []), .nil, .nil, .nil], .nil, .nil, .nil], [], places) :=
  ⟨[], by kernel_rfl⟩

set_option maxRecDepth 100000 in
theorem liftedSaid (os : Os) (started : os.Started) (H : Type) (enc : TypeId × Value → H) (F : Stop.Interp) :
    ReturnsInHanded {} Tryz.checked os 5 .any ((Rows.OpenSpec.upto Rows.restItemsSpec).preRow enc Tryz.prog Tryz.f5 Rows.restItemsUptoRow.domain false Rows.restItemsUptoRow.laid) (((Rows.OpenSpec.upto Rows.restItemsSpec).at F).post enc Tryz.prog Tryz.f5 false true false false) := by
  obtain ⟨places, hx⟩ := reads os enc
  refine returnsInHanded_of_row (C := Tryz.checked) (s := Rows.OpenSpec.upto Rows.restItemsSpec) own started (by kernel_rfl) Tryz.func5
    (witness_row_at (enc := enc) (C := Tryz.checked) false (World.laidAll Tryz.prog os Rows.restItemsUptoRow.laid) #[.agg #[.int .i64 0, .string ⟨#[]⟩, .slice none 0 0, .slice none 0 0, .slice none 0 0], .slice none 0 0, .slice none 0 0, .slice none 0 0] (World.laidAll_os _ _ _) (by kernel_rfl) (by kernel_rfl) (by kernel_rfl)
      (OpenSpec.preRow_of_cond 8 hx (by kernel_rfl) (fun k hk => by cases hk; kernel_rfl) (by kernel_rfl) (laid_metH os))) ?_
  intro W base args ds gs before hval hW _ hcond hwt _ _ _
  exact contract H enc W base args ds gs before hval hW hwt (hcond _ rfl)

theorem said : Rows.RestItemsUptoSaid :=
  OpenClaim.holds_of_cond 5 Tryz.f5 rfl rfl rfl rfl rfl rfl rfl ⟨rfl, rfl, rfl, rfl, rfl⟩ rfl rfl rfl rfl rfl (by kernel_rfl) Tryz.func5 (by kernel_rfl)
    (of_decide_eq_true (by kernel_rfl)) (by unfold Func.isWrapper; first | (rw [if_pos (by decide +kernel)]; kernel_rfl) | (rw [if_neg (by decide +kernel)]; exact ⟨rfl, rfl⟩))
    (fun os started H enc _ F => by rw [OpenClaim.pre_eq_preRow]; exact liftedSaid os started H enc F)
end Go.Proofs.YtcidoodaiimhfaaGreat.restItems
namespace Go.Proofs.YtcidoodaiimhfaaGreat
theorem restItemsUpto_holds : Rows.RestItemsUptoSaid := restItems.said
end Go.Proofs.YtcidoodaiimhfaaGreat
