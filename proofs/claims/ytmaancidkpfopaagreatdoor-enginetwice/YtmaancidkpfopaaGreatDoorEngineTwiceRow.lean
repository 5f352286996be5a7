/-
  WHAT IS PROVED: for every space, every time, every key and every value, the call of EngineTwice returns true, and its arguments read afterwards as they read before.
  CONDITIONS: the package-level variables that the row lists hold what the program's text lays (the card ties them).
-/
import Derived.Test.YtmaancidkpfopaaGreatDoorETwice
import Derived.Test.YtmaancidkpfopaaGreatDoorPart13
import Derived.Test.YtmaancidkpfopaaGreatDoorCards
import Derived.Test.YtmaancidkpfopaaGreatDoorTie
import Derived.Lib.LaidTab
import Derived.Lib.LaidU8
import Derived.Test.YtmaancidkpfopaaGreatDoorEngineTwiceF
import Derived.WalkKit
import Derived.ProofKit
import Derived.OpenShut
import Derived.MakeChecks
import Derived.Deep.DeepHandedRow
import Derived.Lay
import Derived.SizedLaws
namespace Go.Proofs.YtmaancidkpfopaaGreatDoor.engineTwice
open Go.ChangeShapes Go.WideShapes Go.ChangeAt Go.RowKit
open Go.ChangeMaps (open_string shut_string)

theorem own : ownKnob Tryz.prog.godebug = none := by kernel_rfl
theorem laidOut : laidOutB Tryz.prog = true := by kernel_rfl
theorem readSpace : Tryz.prog.readableRec 23 = true := by kernel_rfl
theorem inSpace : 23 < Tryz.prog.types.size := of_decide_eq_true (by kernel_rfl)

theorem tabType : (Tryz.prog.globals[3]?).map (·.type) = some 293 := by kernel_rfl
theorem tabUnder : Tryz.prog.underlying 293 = some (.array 20 249) := by kernel_rfl
theorem u64Under : Tryz.prog.underlying 249 = some (.int .u64) := by kernel_rfl
theorem u64Cells : Tryz.prog.cellsOf 249 = 1 := by kernel_rfl
theorem tabCells : Tryz.prog.cellsOf 293 = 20 := by kernel_rfl
theorem synNamed : Tryz.prog.globalNamed "strconv.ErrSyntax" = some 1 := by kernel_rfl
theorem rngNamed : Tryz.prog.globalNamed "strconv.ErrRange" = some 2 := by kernel_rfl
theorem synType : (Tryz.prog.globals[1]?).map (·.type) = some 94 := by kernel_rfl
theorem rngType : (Tryz.prog.globals[2]?).map (·.type) = some 94 := by kernel_rfl
theorem tabData_eq : (Rows.laid_internal_strconv_uint64pow10 : DataW Unit) = Lib.tabData .u64 Lib.pow10Tab := rfl
theorem iface_read {H : Type} {enc : TypeId × Value → H} {W : World} {n : Nat} {t : TypeId} {ms : Array (String × TypeId)} {cs : List Value} {x : DataW H × List MemPlace} (ht : Tryz.prog.underlying t = some (.interface ms)) (h : DataW.trod enc Tryz.prog W 0 (fun _ => true) false n t cs = some x) :
    ∃ ev, cs[0]? = some ev ∧ (ev = .nilIface ∨ ∃ te pe, ev = .iface te pe) := by
  cases n with
  | zero => simp [DataW.trod] at h
  | succ n =>
    unfold DataW.trod at h
    rw [ht] at h
    simp only at h
    split at h
    all_goals first
      | exact ⟨_, rfl, .inl rfl⟩
      | exact ⟨_, rfl, .inr ⟨_, _, rfl⟩⟩
      | (exfalso; rename_i heq; simp at heq; done)
      | (exfalso; simp at h; done)
      | (exfalso; simp_all; done)
theorem env_of {W : World} (hl0 : laidMetH Tryz.prog Rows.engineTwiceRow.laid W) : Env W := by
  have hl : laidMet Tryz.prog Rows.engineTwiceRow.laid W := by
    rw [Go.MakeChecks.laidMetH_plain _ _ _ (by kernel_rfl)] at hl0
    exact hl0
  have m1 : ("internal/strconv.uint64pow10", Rows.laid_internal_strconv_uint64pow10) ∈ Rows.engineTwiceRow.laid := by simp [Rows.engineTwiceRow]
  have m2 : ("strconv.ErrSyntax", Rows.laid_strconv_ErrSyntax) ∈ Rows.engineTwiceRow.laid := by simp [Rows.engineTwiceRow]
  have m3 : ("strconv.ErrRange", Rows.laid_strconv_ErrRange) ∈ Rows.engineTwiceRow.laid := by simp [Rows.engineTwiceRow]
  obtain ⟨g1, t1, cs1, f1, p1, a1, b1, c1, d1⟩ := Lib.laidMet.reads hl m1
  obtain ⟨g2, t2, cs2, f2, p2, a2, b2, c2, d2⟩ := Lib.laidMet.reads hl m2
  obtain ⟨g3, t3, cs3, f3, p3, a3, b3, c3, d3⟩ := Lib.laidMet.reads hl m3
  obtain rfl := Option.some.inj (gTab.symm.trans a1)
  obtain rfl := Option.some.inj (tabType.symm.trans b1)
  obtain rfl := Option.some.inj (synNamed.symm.trans a2)
  obtain rfl := Option.some.inj (synType.symm.trans b2)
  obtain rfl := Option.some.inj (rngNamed.symm.trans a3)
  obtain rfl := Option.some.inj (rngType.symm.trans b3)
  rw [tabData_eq] at d1
  have e1 := Lib.cells_of_tab tabUnder u64Under u64Cells tabCells d1
  obtain ⟨ev2, x2, y2⟩ := iface_read Tryz.underlying94 d2
  obtain ⟨ev3, x3, y3⟩ := iface_read Tryz.underlying94 d3
  have k2 := World.var?_cell synNamed c2 0
  have k3 := World.var?_cell rngNamed c3 0
  rw [← Array.getElem?_toList, x2] at k2
  rw [← Array.getElem?_toList, x3] at k3
  refine ⟨?_, ⟨ev2, k2, y2⟩, ⟨ev3, k3, y3⟩, ?_⟩
  · unfold Lib.TabIs
    rw [c1, ← e1]
  · have h3 := World.block_lt_of_cell? _ _ k2
    have h4 := World.block_lt_of_cell? _ _ k3
    have k1 := World.var?_cell gTab c1 0
    rw [← Array.getElem?_toList, e1] at k1
    have h5 := World.block_lt_of_cell? _ _ (k1.trans (show (List.map (fun z => Value.int IntKind.u64 z) Lib.pow10Tab)[0]? = some (.int .u64 1) from rfl))
    simp only at h3 h4 h5
    omega

set_option maxRecDepth 100000 in
theorem contract (H : Type) (enc : TypeId × Value → H) (W : World) (base : Nat) (args : Array Value) (ds gs : List (DataW H)) (before : List MemPlace)
    (hval : ∀ (j : Nat) t v, Tryz.f3.params[j]? = some t → args[j]? = some v → Value.okWide Tryz.prog W .any base t v)
    (hW : DataW.Whole enc Tryz.prog Tryz.f3.params.toList Rows.engineTwiceSpec.vars false W args.toList ds gs before) (hk : (DataW.weightsEach Tryz.prog (Tryz.f3.params.toList ++ (OpenSpec.ofChange Rows.engineTwiceSpec).bare.plain.varTypes Tryz.prog) (ds ++ gs)).all (· ≤ reachBytes) = true)
    (hl : laidMetH Tryz.prog Rows.engineTwiceRow.laid W) :
    Calls Tryz.prog 3 args W fun e W' => ∃ v, e = .returned v ∧ Rows.engineTwiceSpec.post enc Tryz.prog Tryz.f3 false true false false W args v W' := by
  have hW' := hW
  obtain ⟨p, q, hA0, hV, rfl, hfz, hnd⟩ := hW
  have hA : DataW.TrodAll enc Tryz.prog W 0 (fun _ => true) true Tryz.f3.params.toList args.toList ds p := hA0
  rw [Tryz.params3] at hA hval
  obtain ⟨v0, vs0, d0, ds0, p0, q0, hargs, rfl, rfl, h0, r0⟩ := trodAll_cons hA
  obtain ⟨v1, vs1, d1, ds1, p1, q1, rfl, rfl, rfl, h1, r1⟩ := trodAll_cons r0
  obtain ⟨v2, vs2, d2, ds2, p2, q2, rfl, rfl, rfl, h2, r2⟩ := trodAll_cons r1
  obtain ⟨v3, vs3, d3, ds3, p3, q3, rfl, rfl, rfl, h3, r3⟩ := trodAll_cons r2
  obtain ⟨rfl, rfl, rfl⟩ := trodAll_nil r3
  obtain rfl : args = #[v0, v1, v2, v3] := by cases args; simp_all
  obtain ⟨rfl, rfl⟩ := trodVars_none hV
  obtain ⟨a0, c0, s0, rfl, i0, u0⟩ := space_of_trod (hval 0 23 v0 rfl rfl) h0 (weights_at hk (j := 0) (t := 23) (by rw [Tryz.params3]; rfl) rfl)
  obtain ⟨n1, rfl, rfl, rfl, wf1⟩ := open_int Tryz.underlying3 (hval 1 3 v1 rfl rfl) h1
  obtain ⟨s2, rfl, rfl, rfl, hmax2⟩ := open_string Tryz.underlying9 (hval 2 9 v2 rfl rfl) h2
  obtain ⟨s3, rfl, rfl, rfl, hmax3⟩ := open_string Tryz.underlying9 (hval 3 9 v3 rfl rfl) h3
  clear hA0
  simp only [List.append_nil] at hW'
  have hlt : ∀ x ∈ p0, x.block < W.heap.size := fun x hx => by simpa using hW'.lt x (by simpa using hx)
  obtain ⟨lo1, hi1⟩ := bounds_i64 wf1
  have hbd2 : s2.data.toList.length ≤ reachBytes := sized_string hk (j := 2) (t := 9) (by rw [Tryz.params3]; rfl) rfl
  have hsl2 : s2.data.toList.length = s2.size := size_list s2
  have hbd3 : s3.data.toList.length ≤ reachBytes := sized_string hk (j := 3) (t := 9) (by rw [Tryz.params3]; rfl) rfl
  have hsl3 : s3.data.toList.length = s3.size := size_list s3
  have hrb := reachBytes_lt
  refine (engineTwice_walk a0 c0 s0 n1 s2 s3 W (env_of hl) i0 u0 (by unfold maxLen; omega) (by unfold maxLen; omega)).mono fun e W' ⟨he, hb⟩ => ?_
  subst he
  have hback : DataW.TrodAll enc Tryz.prog W' 0 (fun b => decide (b < W.heap.size)) true [23, 3, 9, 9] [.slice a0 s0.length c0, .int .i64 n1, .string s2, .string s3] [d0, .lit (.int .i64 n1), .lit (.string s2.data.toList), .lit (.string s3.data.toList)] (p0) := by
    simpa using trodAll_cons_mk (Below.trod laidOut readSpace inSpace h0 hb (fun z hz => hlt z (by simp [hz]))) (trodAll_cons_mk (shut_int Tryz.underlying3 wf1) (trodAll_cons_mk (shut_string Tryz.underlying9 hmax2) (trodAll_cons_mk (shut_string Tryz.underlying9 hmax3) (trodAll_mk0))))
  exact ⟨_, rfl, _, _, _, [], p0, [], hW', trodAll_cons_mk (shut_bool Tryz.underlying4 _) trodAll_mk0, hback, rfl, hb.frame _, fun h => by cases h⟩

theorem laid_metH (os : Os) : laidMetH Tryz.prog Rows.engineTwiceRow.laid ((World.laidAll Tryz.prog os Rows.engineTwiceRow.laid).forCall (fun _ _ => 0) ⟨#[], #[.slice none 0 0, .int .i64 0, .string ⟨#[]⟩, .string ⟨#[]⟩], []⟩).memory := by
  rw [Go.MakeChecks.laidMetH_plain _ _ _ (by kernel_rfl)]
  exact laidMet_laidAll _ (by kernel_rfl) (by kernel_rfl)
theorem reads (os : Os) {H : Type} (enc : TypeId × Value → H) : ∃ places, DataW.whole enc Tryz.prog ((World.laidAll Tryz.prog os Rows.engineTwiceRow.laid).forCall (fun _ _ => 0) ⟨#[], #[.slice none 0 0, .int .i64 0, .string ⟨#[]⟩, .string ⟨#[]⟩], []⟩).memory Tryz.f3.params.toList Rows.engineTwiceSpec.vars false (#[.slice none 0 0, .int .i64 0, .string ⟨#[]⟩, .string ⟨#[]⟩] : Array Value).toList 8 = some ([.nil, .lit (.int .i64 0), .lit (.string []), .lit (.string [])], [], places) :=
  ⟨[], by kernel_rfl⟩

set_option maxRecDepth 100000 in
theorem liftedSaid (os : Os) (started : os.Started) (H : Type) (enc : TypeId × Value → H) (F : Stop.Interp) :
    ReturnsInHanded {} Tryz.checked os 3 .any ((OpenSpec.ofChange Rows.engineTwiceSpec).preRow enc Tryz.prog Tryz.f3 Rows.engineTwiceRow.domain false Rows.engineTwiceRow.laid) (((OpenSpec.ofChange Rows.engineTwiceSpec).at F).post enc Tryz.prog Tryz.f3 false true false false) := by
  obtain ⟨places, hx⟩ := reads os enc
  refine returnsInHanded_of_row (C := Tryz.checked) (s := OpenSpec.ofChange Rows.engineTwiceSpec) own started (by kernel_rfl) Tryz.func3
    (witness_row_at (enc := enc) (C := Tryz.checked) false (World.laidAll Tryz.prog os Rows.engineTwiceRow.laid) #[.slice none 0 0, .int .i64 0, .string ⟨#[]⟩, .string ⟨#[]⟩] (World.laidAll_os _ _ _) (by kernel_rfl) (by kernel_rfl) (by kernel_rfl)
      (OpenSpec.preRow_of_cond 8 hx (by kernel_rfl) (fun k hk => by cases hk) (by kernel_rfl) (laid_metH os))) ?_
  intro W base args ds gs before hval hW _ _ hwt hl _ _
  exact contract H enc W base args ds gs before hval hW hwt hl

theorem said : Rows.EngineTwiceSaid :=
  OpenClaim.holds_of_cond 3 Tryz.f3 rfl rfl rfl rfl rfl rfl rfl ⟨rfl, rfl, rfl, rfl, rfl⟩ rfl rfl rfl rfl rfl (by kernel_rfl) Tryz.func3 closed
    (of_decide_eq_true (by kernel_rfl)) (by unfold Func.isWrapper; first | (rw [if_pos (by decide +kernel)]; kernel_rfl) | (rw [if_neg (by decide +kernel)]; exact ⟨rfl, rfl⟩))
    (fun os started H enc _ F => by rw [OpenClaim.pre_eq_preRow]; exact liftedSaid os started H enc F)

theorem plain (f : FuncId) (fn : Func) (hf : Tryz.pinned.checked.prog.funcNamed "springhouse/springhouselaw.EngineTwice" = some f) (hfn : Tryz.pinned.checked.prog.funcs[f]? = some fn) :
    true = Tryz.pinned.checked.prog.looks [] ∧ ∀ (j : Nat) t, fn.params[j]? = some t → Tryz.pinned.checked.prog.wantsStandIn t = false := by
  obtain rfl : f = 3 := Option.some.inj ((show Tryz.prog.funcNamed "springhouse/springhouselaw.EngineTwice" = some 3 by kernel_rfl).symm.trans hf) |>.symm
  obtain rfl : fn = Tryz.f3 := (Option.some.inj (Tryz.func3.symm.trans hfn)).symm
  refine ⟨by kernel_rfl, fun j t ht => ?_⟩
  rw [Tryz.params3] at ht
  have hm := Array.mem_of_getElem? ht
  simp at hm
  rcases hm with rfl | rfl | rfl
  · exact (show Tryz.prog.wantsStandIn 23 = false by kernel_rfl)
  · exact (show Tryz.prog.wantsStandIn 3 = false by kernel_rfl)
  · exact (show Tryz.prog.wantsStandIn 9 = false by kernel_rfl)

/-- THE CARD -/
theorem card : Rows.EngineTwiceCardSaid :=
  Claim7.holds_tied_plain_at .later [] _ _ _ _ said (fun _ h => by cases h) (by kernel_rfl) (fun _ h => by cases h) engineTwice_row_tie rfl ⟨rfl, rfl⟩ (by kernel_rfl) rfl plain (by kernel_rfl)
end Go.Proofs.YtmaancidkpfopaaGreatDoor.engineTwice
namespace Go.Proofs.YtmaancidkpfopaaGreatDoor
theorem engineTwice_holds : Rows.EngineTwiceCardSaid := engineTwice.card
end Go.Proofs.YtmaancidkpfopaaGreatDoor
