/-
  WHAT IS PROVED: for every item and every two numbers, the call of TextSum returns true, and its arguments read afterwards as they read before.
  CONDITIONS: the package-level variables that the row lists hold what the program's text lays (the card ties them).
-/
import Derived.Test.YtolpmaapdkhigabDoorTxtS
import Derived.Test.YtolpmaapdkhigabDoorIOpen
import Derived.Test.YtolpmaapdkhigabDoorCards
import Derived.Test.YtolpmaapdkhigabDoorTie
import Derived.Lib.LaidTab
import Derived.Lib.LaidU8
import Derived.WalkKit
import Derived.ProofKit
import Derived.OpenShut
import Derived.MakeChecks
import Derived.Deep.DeepHandedRow
import Derived.Lay
import Derived.SizedLaws
namespace Go.Proofs.YtolpmaapdkhigabDoor.textSum
open Go.ChangeShapes Go.WideShapes Go.ChangeAt Go.RowKit
open Go.ChangeMaps (open_string shut_string)

theorem own : ownKnob Tryd.prog.godebug = none := by kernel_rfl
theorem laidOut : laidOutB Tryd.prog = true := by kernel_rfl
theorem readItem : Tryd.prog.readableRec 26 = true := by kernel_rfl
theorem inItem : 26 < Tryd.prog.types.size := of_decide_eq_true (by kernel_rfl)

theorem tabType : (Tryd.prog.globals[0]?).map (·.type) = some 100 := by kernel_rfl
theorem tabUnder : Tryd.prog.underlying 100 = some (.array 20 76) := by kernel_rfl
theorem u64Under : Tryd.prog.underlying 76 = some (.int .u64) := by kernel_rfl
theorem u64Cells : Tryd.prog.cellsOf 76 = 1 := by kernel_rfl
theorem tabCells : Tryd.prog.cellsOf 100 = 20 := by kernel_rfl
theorem synNamed : Tryd.prog.globalNamed "strconv.ErrSyntax" = some 1 := by kernel_rfl
theorem rngNamed : Tryd.prog.globalNamed "strconv.ErrRange" = some 2 := by kernel_rfl
theorem synType : (Tryd.prog.globals[1]?).map (·.type) = some 65 := by kernel_rfl
theorem rngType : (Tryd.prog.globals[2]?).map (·.type) = some 65 := by kernel_rfl
theorem tabData_eq : (Rows.laid_internal_strconv_uint64pow10 : DataW Unit) = Lib.tabData .u64 Lib.pow10Tab := rfl
theorem iface_read {H : Type} {enc : TypeId × Value → H} {W : World} {n : Nat} {t : TypeId} {ms : Array (String × TypeId)} {cs : List Value} {x : DataW H × List MemPlace} (ht : Tryd.prog.underlying t = some (.interface ms)) (h : DataW.trod enc Tryd.prog W 0 (fun _ => true) false n t cs = some x) :
    ∃ ev, cs[0]? = some ev ∧ (ev = .nilIface ∨ ∃ te pe, ev = .iface te pe) := by
  cases n with
  | zero => simp [DataW.trod] at h
  | succ n =>
    unfold DataW.trod at h
    rw [ht] at h
    simp only at h
    split at h
    all_goals first
      | exact ⟨_, rfl, .inl rfl⟩
      | exact ⟨_, rfl, .inr ⟨_, _, rfl⟩⟩
      | (exfalso; rename_i heq; simp at heq; done)
      | (exfalso; simp at h; done)
      | (exfalso; simp_all; done)
theorem env_of {W : World} (hl0 : laidMetH Tryd.prog Rows.textSumRow.laid W) : Env W := by
  have hl : laidMet Tryd.prog Rows.textSumRow.laid W := by
    rw [Go.MakeChecks.laidMetH_plain _ _ _ (by kernel_rfl)] at hl0
    exact hl0
  have m1 : ("internal/strconv.uint64pow10", Rows.laid_internal_strconv_uint64pow10) ∈ Rows.textSumRow.laid := by simp [Rows.textSumRow]
  have m2 : ("strconv.ErrSyntax", Rows.laid_strconv_ErrSyntax) ∈ Rows.textSumRow.laid := by simp [Rows.textSumRow]
  have m3 : ("strconv.ErrRange", Rows.laid_strconv_ErrRange) ∈ Rows.textSumRow.laid := by simp [Rows.textSumRow]
  obtain ⟨g1, t1, cs1, f1, p1, a1, b1, c1, d1⟩ := Lib.laidMet.reads hl m1
  obtain ⟨g2, t2, cs2, f2, p2, a2, b2, c2, d2⟩ := Lib.laidMet.reads hl m2
  obtain ⟨g3, t3, cs3, f3, p3, a3, b3, c3, d3⟩ := Lib.laidMet.reads hl m3
  obtain rfl := Option.some.inj (gTab.symm.trans a1)
  obtain rfl := Option.some.inj (tabType.symm.trans b1)
  obtain rfl := Option.some.inj (synNamed.symm.trans a2)
  obtain rfl := Option.some.inj (synType.symm.trans b2)
  obtain rfl := Option.some.inj (rngNamed.symm.trans a3)
  obtain rfl := Option.some.inj (rngType.symm.trans b3)
  rw [tabData_eq] at d1
  have e1 := Lib.cells_of_tab tabUnder u64Under u64Cells tabCells d1
  obtain ⟨ev2, x2, y2⟩ := iface_read Tryd.underlying65 d2
  obtain ⟨ev3, x3, y3⟩ := iface_read Tryd.underlying65 d3
  have k2 := World.var?_cell synNamed c2 0
  have k3 := World.var?_cell rngNamed c3 0
  rw [← Array.getElem?_toList, x2] at k2
  rw [← Array.getElem?_toList, x3] at k3
  refine ⟨?_, ⟨ev2, k2, y2⟩, ⟨ev3, k3, y3⟩, ?_⟩
  · unfold Lib.TabIs
    rw [c1, ← e1]
  · have h3 := World.block_lt_of_cell? _ _ k2
    have h4 := World.block_lt_of_cell? _ _ k3
    simp only at h3 h4
    omega

set_option maxRecDepth 100000 in
theorem contract (H : Type) (enc : TypeId × Value → H) (W : World) (base : Nat) (args : Array Value) (ds gs : List (DataW H)) (before : List MemPlace)
    (hval : ∀ (j : Nat) t v, Tryd.f5.params[j]? = some t → args[j]? = some v → Value.okWide Tryd.prog W .any base t v)
    (hW : DataW.Whole enc Tryd.prog Tryd.f5.params.toList Rows.textSumSpec.vars false W args.toList ds gs before) (hk : (DataW.weightsEach Tryd.prog (Tryd.f5.params.toList ++ (OpenSpec.ofChange Rows.textSumSpec).bare.plain.varTypes Tryd.prog) (ds ++ gs)).all (· ≤ reachBytes) = true)
    (hl : laidMetH Tryd.prog Rows.textSumRow.laid W) :
    Calls Tryd.prog 5 args W fun e W' => ∃ v, e = .returned v ∧ Rows.textSumSpec.post enc Tryd.prog Tryd.f5 false true false false W args v W' := by
  have hW' := hW
  obtain ⟨p, q, hA0, hV, rfl, hfz, hnd⟩ := hW
  have hA : DataW.TrodAll enc Tryd.prog W 0 (fun _ => true) true Tryd.f5.params.toList args.toList ds p := hA0
  rw [Tryd.params5] at hA hval
  obtain ⟨v0, vs0, d0, ds0, p0, q0, hargs, rfl, rfl, h0, r0⟩ := trodAll_cons hA
  obtain ⟨v1, vs1, d1, ds1, p1, q1, rfl, rfl, rfl, h1, r1⟩ := trodAll_cons r0
  obtain ⟨v2, vs2, d2, ds2, p2, q2, rfl, rfl, rfl, h2, r2⟩ := trodAll_cons r1
  obtain ⟨rfl, rfl, rfl⟩ := trodAll_nil r2
  obtain rfl : args = #[v0, v1, v2] := by cases args; simp_all
  obtain ⟨rfl, rfl⟩ := trodVars_none hV
  obtain ⟨x0, i0⟩ := item_of_trod (hval 0 26 v0 rfl rfl) h0 (weights_at hk (j := 0) (t := 26) (by rw [Tryd.params5]; rfl) rfl)
  obtain ⟨n1, rfl, rfl, rfl, wf1⟩ := open_int Tryd.underlying3 (hval 1 3 v1 rfl rfl) h1
  obtain ⟨n2, rfl, rfl, rfl, wf2⟩ := open_int Tryd.underlying3 (hval 2 3 v2 rfl rfl) h2
  clear hA0
  simp only [List.append_nil] at hW'
  have hlt : ∀ x ∈ p0, x.block < W.heap.size := fun x hx => by simpa using hW'.lt x (by simpa using hx)
  obtain ⟨lo1, hi1⟩ := bounds_i64 wf1
  obtain ⟨lo2, hi2⟩ := bounds_i64 wf2
  have hrb := reachBytes_lt
  refine (textSum_walk v0 x0 n1 n2 W (env_of hl) i0 lo1 hi1 lo2 hi2).mono fun e W' ⟨he, hb⟩ => ?_
  subst he
  have hback : DataW.TrodAll enc Tryd.prog W' 0 (fun b => decide (b < W.heap.size)) true [26, 3, 3] [v0, .int .i64 n1, .int .i64 n2] [d0, .lit (.int .i64 n1), .lit (.int .i64 n2)] (p0) := by
    simpa using trodAll_cons_mk (Below.trod laidOut readItem inItem h0 hb (fun z hz => hlt z (by simp [hz]))) (trodAll_cons_mk (shut_int Tryd.underlying3 wf1) (trodAll_cons_mk (shut_int Tryd.underlying3 wf2) (trodAll_mk0)))
  exact ⟨_, rfl, _, _, _, [], p0, [], hW', trodAll_cons_mk (shut_bool Tryd.underlying4 _) trodAll_mk0, hback, rfl, hb.frame _, fun h => by cases h⟩

theorem laid_metH (os : Os) : laidMetH Tryd.prog Rows.textSumRow.laid ((World.laidAll Tryd.prog os Rows.textSumRow.laid).forCall (fun _ _ => 0) ⟨#[], #[.agg #[.int .i64 0, .string ⟨#[]⟩, .slice none 0 0, .slice none 0 0, .slice none 0 0], .int .i64 0, .int .i64 0], []⟩).memory := by
  rw [Go.MakeChecks.laidMetH_plain _ _ _ (by kernel_rfl)]
  exact laidMet_laidAll _ (by kernel_rfl) (by kernel_rfl)
theorem reads (os : Os) {H : Type} (enc : TypeId × Value → H) : ∃ places, DataW.whole enc Tryd.prog ((World.laidAll Tryd.prog os Rows.textSumRow.laid).forCall (fun _ _ => 0) ⟨#[], #[.agg #[.int .i64 0, .string ⟨#[]⟩, .slice none 0 0, .slice none 0 0, .slice none 0 0], .int .i64 0, .int .i64 0], []⟩).memory Tryd.f5.params.toList Rows.textSumSpec.vars false (#[.agg #[.int .i64 0, .string ⟨#[]⟩, .slice none 0 0, .slice none 0 0, .slice none 0 0], .int .i64 0, .int .i64 0] : Array Value).toList 8 = some ([.agg [.lit (.int .i64 0), .lit (.string []), .nil, .nil, .nil], .lit (.int .i64 0), .lit (.int .i64 0)], [], places) :=
  ⟨[], by kernel_rfl⟩

set_option maxRecDepth 100000 in
theorem liftedSaid (os : Os) (started : os.Started) (H : Type) (enc : TypeId × Value → H) (F : Stop.Interp) :
    ReturnsInHanded {} Tryd.checked os 5 .any ((OpenSpec.ofChange Rows.textSumSpec).preRow enc Tryd.prog Tryd.f5 Rows.textSumRow.domain false Rows.textSumRow.laid) (((OpenSpec.ofChange Rows.textSumSpec).at F).post enc Tryd.prog Tryd.f5 false true false false) := by
  obtain ⟨places, hx⟩ := reads os enc
  refine returnsInHanded_of_row (C := Tryd.checked) (s := OpenSpec.ofChange Rows.textSumSpec) own started (by kernel_rfl) Tryd.func5
    (witness_row_at (enc := enc) (C := Tryd.checked) false (World.laidAll Tryd.prog os Rows.textSumRow.laid) #[.agg #[.int .i64 0, .string ⟨#[]⟩, .slice none 0 0, .slice none 0 0, .slice none 0 0], .int .i64 0, .int .i64 0] (World.laidAll_os _ _ _) (by kernel_rfl) (by kernel_rfl) (by kernel_rfl)
      (OpenSpec.preRow_of_cond 8 hx (by kernel_rfl) (fun k hk => by cases hk) (by kernel_rfl) (laid_metH os))) ?_
  intro W base args ds gs before hval hW _ _ hwt hl _ _
  exact contract H enc W base args ds gs before hval hW hwt hl

theorem said : Rows.TextSumSaid :=
  OpenClaim.holds_of_cond 5 Tryd.f5 rfl rfl rfl rfl rfl rfl rfl ⟨rfl, rfl, rfl, rfl, rfl⟩ rfl rfl rfl rfl rfl (by kernel_rfl) Tryd.func5 (by kernel_rfl)
    (of_decide_eq_true (by kernel_rfl)) (by unfold Func.isWrapper; first | (rw [if_pos (by decide +kernel)]; kernel_rfl) | (rw [if_neg (by decide +kernel)]; exact ⟨rfl, rfl⟩))
    (fun os started H enc _ F => by rw [OpenClaim.pre_eq_preRow]; exact liftedSaid os started H enc F)

theorem plain (f : FuncId) (fn : Func) (hf : Tryd.pinned.checked.prog.funcNamed "springhouse/springhouselaw.TextSum" = some f) (hfn : Tryd.pinned.checked.prog.funcs[f]? = some fn) :
    true = Tryd.pinned.checked.prog.looks [] ∧ ∀ (j : Nat) t, fn.params[j]? = some t → Tryd.pinned.checked.prog.wantsStandIn t = false := by
  obtain rfl : f = 5 := Option.some.inj ((show Tryd.prog.funcNamed "springhouse/springhouselaw.TextSum" = some 5 by kernel_rfl).symm.trans hf) |>.symm
  obtain rfl : fn = Tryd.f5 := (Option.some.inj (Tryd.func5.symm.trans hfn)).symm
  refine ⟨by kernel_rfl, fun j t ht => ?_⟩
  rw [Tryd.params5] at ht
  have hm := Array.mem_of_getElem? ht
  simp at hm
  rcases hm with rfl | rfl
  · exact (show Tryd.prog.wantsStandIn 26 = false by kernel_rfl)
  · exact (show Tryd.prog.wantsStandIn 3 = false by kernel_rfl)

/-- THE CARD -/
theorem card : Rows.TextSumCardSaid :=
  Claim7.holds_tied_plain_at .later [] _ _ _ _ said (fun _ h => by cases h) (by kernel_rfl) (fun _ h => by cases h) textSum_row_tie rfl ⟨rfl, rfl⟩ (by kernel_rfl) rfl plain (by kernel_rfl)
end Go.Proofs.YtolpmaapdkhigabDoor.textSum
namespace Go.Proofs.YtolpmaapdkhigabDoor
theorem textSum_holds : Rows.TextSumCardSaid := textSum.card
end Go.Proofs.YtolpmaapdkhigabDoor
