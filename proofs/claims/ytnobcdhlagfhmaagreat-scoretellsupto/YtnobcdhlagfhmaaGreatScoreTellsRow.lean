/-
  WHAT IS PROVED: for every item, every list of scores, every list of texts, every text and every two numbers, the call of ScoreTells returns true, and its arguments read afterwards as they read before.
  CONDITIONS: what is read is of bulk at most 1048576.
-/
import Derived.Test.YtnobcdhlagfhmaaGreatZTells
import Derived.Test.YtnobcdhlagfhmaaGreatZBulk
import Derived.Test.YtnobcdhlagfhmaaGreatIOpen
import Derived.WalkKit
import Derived.ProofKit
import Derived.OpenShut
import Derived.MakeChecks
import Derived.Deep.DeepHandedRow
import Derived.Lay
import Derived.SizedLaws
namespace Go.Proofs.YtnobcdhlagfhmaaGreat.scoreTells
open Go.ChangeShapes Go.WideShapes Go.ChangeAt Go.RowKit
open Go.ChangeMaps (open_string shut_string)

theorem own : ownKnob Tryz.prog.godebug = none := by kernel_rfl
theorem laidOut : laidOutB Tryz.prog = true := by kernel_rfl
theorem readItem : Tryz.prog.readableRec 26 = true := by kernel_rfl
theorem inItem : 26 < Tryz.prog.types.size := of_decide_eq_true (by kernel_rfl)
theorem readList : Tryz.prog.readableRec 22 = true := by kernel_rfl
theorem inList : 22 < Tryz.prog.types.size := of_decide_eq_true (by kernel_rfl)
theorem readScores : Tryz.prog.readableRec 24 = true := by kernel_rfl
theorem inScores : 24 < Tryz.prog.types.size := of_decide_eq_true (by kernel_rfl)

set_option maxRecDepth 100000 in
theorem contract (H : Type) (enc : TypeId × Value → H) (W : World) (base : Nat) (args : Array Value) (ds gs : List (DataW H)) (before : List MemPlace)
    (hval : ∀ (j : Nat) t v, Tryz.f3.params[j]? = some t → args[j]? = some v → Value.okWide Tryz.prog W .any base t v)
    (hW : DataW.Whole enc Tryz.prog Tryz.f3.params.toList Rows.scoreTellsSpec.vars false W args.toList ds gs before) (hk : (DataW.weightsEach Tryz.prog (Tryz.f3.params.toList ++ (Rows.OpenSpec.upto Rows.scoreTellsSpec).bare.plain.varTypes Tryz.prog) (ds ++ gs)).all (· ≤ reachBytes) = true) (hk2 : Rows.uptoSmall H (ds ++ gs) = true) :
    Calls Tryz.prog 3 args W fun e W' => ∃ v, e = .returned v ∧ Rows.scoreTellsSpec.post enc Tryz.prog Tryz.f3 false true false false W args v W' := by
  have hW' := hW
  obtain ⟨p, q, hA0, hV, rfl, hfz, hnd⟩ := hW
  have hA : DataW.TrodAll enc Tryz.prog W 0 (fun _ => true) true Tryz.f3.params.toList args.toList ds p := hA0
  rw [Tryz.params3] at hA hval
  obtain ⟨v0, vs0, d0, ds0, p0, q0, hargs, rfl, rfl, h0, r0⟩ := trodAll_cons hA
  obtain ⟨v1, vs1, d1, ds1, p1, q1, rfl, rfl, rfl, h1, r1⟩ := trodAll_cons r0
  obtain ⟨v2, vs2, d2, ds2, p2, q2, rfl, rfl, rfl, h2, r2⟩ := trodAll_cons r1
  obtain ⟨v3, vs3, d3, ds3, p3, q3, rfl, rfl, rfl, h3, r3⟩ := trodAll_cons r2
  obtain ⟨v4, vs4, d4, ds4, p4, q4, rfl, rfl, rfl, h4, r4⟩ := trodAll_cons r3
  obtain ⟨v5, vs5, d5, ds5, p5, q5, rfl, rfl, rfl, h5, r5⟩ := trodAll_cons r4
  obtain ⟨rfl, rfl, rfl⟩ := trodAll_nil r5
  obtain rfl : args = #[v0, v1, v2, v3, v4, v5] := by cases args; simp_all
  obtain ⟨rfl, rfl⟩ := trodVars_none hV
  obtain ⟨x0, i0⟩ := item_of_trod (hval 0 26 v0 rfl rfl) h0 (weights_at hk (j := 0) (t := 26) (by rw [Tryz.params3]; rfl) rfl)
  obtain ⟨a1, c1, l1, rfl, i1, z1, u1⟩ := scores_of_trodU (hval 1 24 v1 rfl rfl) h1
  have ub1 : l1.length ≤ 1048576 := Nat.le_trans u1 (bulk_part (by simp) hk2)
  obtain ⟨a2, c2, l2, rfl, i2, z2, u2⟩ := list_of_trod (hval 2 22 v2 rfl rfl) h2 (weights_at hk (j := 2) (t := 22) (by rw [Tryz.params3]; rfl) rfl)
  obtain ⟨s3, rfl, rfl, rfl, hmax3⟩ := open_string Tryz.underlying9 (hval 3 9 v3 rfl rfl) h3
  obtain ⟨n4, rfl, rfl, rfl, wf4⟩ := open_int Tryz.underlying3 (hval 4 3 v4 rfl rfl) h4
  obtain ⟨n5, rfl, rfl, rfl, wf5⟩ := open_int Tryz.underlying3 (hval 5 3 v5 rfl rfl) h5
  clear hA0
  simp only [List.append_nil] at hW'
  have hlt : ∀ x ∈ p0 ++ p1 ++ p2, x.block < W.heap.size := fun x hx => by simpa using hW'.lt x (by simpa using hx)
  have hbd3 : s3.data.toList.length ≤ reachBytes := sized_string hk (j := 3) (t := 9) (by rw [Tryz.params3]; rfl) rfl
  have hsl3 : s3.data.toList.length = s3.size := size_list s3
  obtain ⟨lo4, hi4⟩ := bounds_i64 wf4
  obtain ⟨lo5, hi5⟩ := bounds_i64 wf5
  have hrb := reachBytes_lt
  refine (Z.scoreTells_walk v0 x0 a1 c1 l1 a2 c2 l2 s3 n4 n5 W i0 i1 (by omega) i2 (by omega) (by have := i0.sl; omega) lo4 hi4 lo5 hi5).mono fun e W' ⟨he, hb⟩ => ?_
  subst he
  have hback : DataW.TrodAll enc Tryz.prog W' 0 (fun b => decide (b < W.heap.size)) true [26, 24, 22, 9, 3, 3] [v0, .slice a1 l1.length c1, .slice a2 l2.length c2, .string s3, .int .i64 n4, .int .i64 n5] [d0, d1, d2, .lit (.string s3.data.toList), .lit (.int .i64 n4), .lit (.int .i64 n5)] (p0 ++ p1 ++ p2) := by
    simpa using trodAll_cons_mk (Below.trod laidOut readItem inItem h0 hb (fun z hz => hlt z (by simp [hz]))) (trodAll_cons_mk (Below.trod laidOut readScores inScores h1 hb (fun z hz => hlt z (by simp [hz]))) (trodAll_cons_mk (Below.trod laidOut readList inList h2 hb (fun z hz => hlt z (by simp [hz]))) (trodAll_cons_mk (shut_string Tryz.underlying9 hmax3) (trodAll_cons_mk (shut_int Tryz.underlying3 wf4) (trodAll_cons_mk (shut_int Tryz.underlying3 wf5) (trodAll_mk0))))))
  exact ⟨_, rfl, _, _, _, [], p0 ++ p1 ++ p2, [], hW', trodAll_cons_mk (shut_bool Tryz.underlying4 _) trodAll_mk0, hback, rfl, hb.frame _, fun h => by cases h⟩

theorem laid_metH (os : Os) : laidMetH Tryz.prog Rows.scoreTellsUptoRow.laid ((World.laidAll Tryz.prog os Rows.scoreTellsUptoRow.laid).forCall (fun _ _ => 0) ⟨#[], #[.agg #[.int .i64 0, .string ⟨#[]⟩, .slice none 0 0, .slice none 0 0, .slice none 0 0], .slice none 0 0, .slice none 0 0, .string ⟨#[]⟩, .int .i64 0, .int .i64 0], []⟩).memory := by
  rw [Go.MakeChecks.laidMetH_plain _ _ _ (by kernel_rfl)]
  exact laidMet_laidAll _ (by kernel_rfl) (by kernel_rfl)
theorem reads (os : Os) {H : Type} (enc : TypeId × Value → H) : ∃ places, DataW.whole enc Tryz.prog ((World.laidAll Tryz.prog os Rows.scoreTellsUptoRow.laid).forCall (fun _ _ => 0) ⟨#[], #[.agg #[.int .i64 0, .string ⟨#[]⟩, .slice none 0 0, .slice none 0 0, .slice none 0 0], .slice none 0 0, .slice none 0 0, .string ⟨#[]⟩, .int .i64 0, .int .i64 0], []⟩).memory Tryz.f3.params.toList Rows.scoreTellsSpec.vars false (#[.agg #[.int .i64 0, .string ⟨#[]⟩, .slice none 0 0, .slice none 0 0, .slice none 0 0], .slice none 0 0, .slice none 0 0, .string ⟨#[]⟩, .int .i64 0, .int .i64 0] : Array Value).toList 8 = some ([.agg [.lit (.int .i64 0), .lit (.string []), .nil, .nil, .nil], .nil, .nil, .lit (.string []), .lit (.int .i64 0), .lit (.int .i64 0)], [], places) :=
  ⟨[], by kernel_rfl⟩

set_option maxRecDepth 100000 in
theorem liftedSaid (os : Os) (started : os.Started) (H : Type) (enc : TypeId × Value → H) (F : Stop.Interp) :
    ReturnsInHanded {} Tryz.checked os 3 .any ((Rows.OpenSpec.upto Rows.scoreTellsSpec).preRow enc Tryz.prog Tryz.f3 Rows.scoreTellsUptoRow.domain false Rows.scoreTellsUptoRow.laid) (((Rows.OpenSpec.upto Rows.scoreTellsSpec).at F).post enc Tryz.prog Tryz.f3 false true false false) := by
  obtain ⟨places, hx⟩ := reads os enc
  refine returnsInHanded_of_row (C := Tryz.checked) (s := Rows.OpenSpec.upto Rows.scoreTellsSpec) own started (by kernel_rfl) Tryz.func3
    (witness_row_at (enc := enc) (C := Tryz.checked) false (World.laidAll Tryz.prog os Rows.scoreTellsUptoRow.laid) #[.agg #[.int .i64 0, .string ⟨#[]⟩, .slice none 0 0, .slice none 0 0, .slice none 0 0], .slice none 0 0, .slice none 0 0, .string ⟨#[]⟩, .int .i64 0, .int .i64 0] (World.laidAll_os _ _ _) (by kernel_rfl) (by kernel_rfl) (by kernel_rfl)
      (OpenSpec.preRow_of_cond 8 hx (by kernel_rfl) (fun k hk => by cases hk; kernel_rfl) (by kernel_rfl) (laid_metH os))) ?_
  intro W base args ds gs before hval hW _ hcond hwt _ _ _
  exact contract H enc W base args ds gs before hval hW hwt (hcond _ rfl)

theorem said : Rows.ScoreTellsUptoSaid :=
  OpenClaim.holds_of_cond 3 Tryz.f3 rfl rfl rfl rfl rfl rfl rfl ⟨rfl, rfl, rfl, rfl, rfl⟩ rfl rfl rfl rfl rfl (by kernel_rfl) Tryz.func3 (by kernel_rfl)
    (of_decide_eq_true (by kernel_rfl)) (by unfold Func.isWrapper; first | (rw [if_pos (by decide +kernel)]; kernel_rfl) | (rw [if_neg (by decide +kernel)]; exact ⟨rfl, rfl⟩))
    (fun os started H enc _ F => by rw [OpenClaim.pre_eq_preRow]; exact liftedSaid os started H enc F)
end Go.Proofs.YtnobcdhlagfhmaaGreat.scoreTells
namespace Go.Proofs.YtnobcdhlagfhmaaGreat
theorem scoreTellsUpto_holds : Rows.ScoreTellsUptoSaid := scoreTells.said
end Go.Proofs.YtnobcdhlagfhmaaGreat
