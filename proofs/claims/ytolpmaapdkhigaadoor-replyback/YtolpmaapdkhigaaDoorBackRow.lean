/-
  WHAT IS PROVED: for every two replies and every text, where what is read is of bulk at most 1048576, the call of ReplyBack returns true, and its arguments read afterwards as they read before.
  CONDITIONS: the bound on the bulk; the package-level variables that the row lists hold what the program's text lays (the card ties them).
-/
import Derived.Test.YtolpmaapdkhigaaDoorBackOpen
import Derived.Test.YtolpmaapdkhigaaDoorCards
import Derived.Test.YtolpmaapdkhigaaDoorTie
import Derived.WalkKit
import Derived.ProofKit
import Derived.OpenShut
import Derived.MakeChecks
import Derived.Deep.DeepHandedRow
import Derived.Lay
namespace Go.Proofs.YtolpmaapdkhigaaDoor.replyBack
open Go.ChangeShapes Go.WideShapes Go.ChangeAt Go.RowKit
open Go.ChangeMaps (open_string shut_string)

theorem own : ownKnob Tryd.prog.godebug = none := by kernel_rfl
theorem laidOut : laidOutB Tryd.prog = true := by kernel_rfl

theorem tabType : (Tryd.prog.globals[0]?).map (·.type) = some 102 := by kernel_rfl
theorem tabUnder : Tryd.prog.underlying 102 = some (.array 20 92) := by kernel_rfl
theorem u64Under : Tryd.prog.underlying 92 = some (.int .u64) := by kernel_rfl
theorem u64Cells : Tryd.prog.cellsOf 92 = 1 := by kernel_rfl
theorem tabCells : Tryd.prog.cellsOf 102 = 20 := by kernel_rfl
theorem synNamed : Tryd.prog.globalNamed "strconv.ErrSyntax" = some 3 := by kernel_rfl
theorem rngNamed : Tryd.prog.globalNamed "strconv.ErrRange" = some 4 := by kernel_rfl
theorem synType : (Tryd.prog.globals[3]?).map (·.type) = some 49 := by kernel_rfl
theorem rngType : (Tryd.prog.globals[4]?).map (·.type) = some 49 := by kernel_rfl
theorem tabData_eq : (Rows.laid_internal_strconv_uint64pow10 : DataW Unit) = Lib.tabData .u64 Lib.pow10Tab := rfl

theorem env_of {W : World} (hl0 : laidMetH Tryd.prog Rows.replyBackUptoRow.laid W) : Env W := by
  have hl : laidMet Tryd.prog Rows.replyBackUptoRow.laid W := by
    rw [Go.MakeChecks.laidMetH_plain _ _ _ (by kernel_rfl)] at hl0
    exact hl0
  have m1 : ("internal/strconv.uint64pow10", Rows.laid_internal_strconv_uint64pow10) ∈ Rows.replyBackUptoRow.laid := by simp [Rows.replyBackUptoRow]
  have m2 : ("strconv.ErrSyntax", Rows.laid_strconv_ErrSyntax) ∈ Rows.replyBackUptoRow.laid := by simp [Rows.replyBackUptoRow]
  have m3 : ("strconv.ErrRange", Rows.laid_strconv_ErrRange) ∈ Rows.replyBackUptoRow.laid := by simp [Rows.replyBackUptoRow]
  obtain ⟨g1, t1, cs1, f1, p1, a1, b1, c1, d1⟩ := Lib.laidMet.reads hl m1
  obtain ⟨g2, t2, cs2, f2, p2, a2, b2, c2, d2⟩ := Lib.laidMet.reads hl m2
  obtain ⟨g3, t3, cs3, f3, p3, a3, b3, c3, d3⟩ := Lib.laidMet.reads hl m3
  obtain rfl := Option.some.inj (gTab.symm.trans a1)
  obtain rfl := Option.some.inj (tabType.symm.trans b1)
  obtain rfl := Option.some.inj (synNamed.symm.trans a2)
  obtain rfl := Option.some.inj (synType.symm.trans b2)
  obtain rfl := Option.some.inj (rngNamed.symm.trans a3)
  obtain rfl := Option.some.inj (rngType.symm.trans b3)
  rw [tabData_eq] at d1
  have e1 := Lib.cells_of_tab tabUnder u64Under u64Cells tabCells d1
  obtain ⟨ev2, x2, y2⟩ := iface_read Tryd.underlying49 d2
  obtain ⟨ev3, x3, y3⟩ := iface_read Tryd.underlying49 d3
  have k2 := World.var?_cell synNamed c2 0
  have k3 := World.var?_cell rngNamed c3 0
  rw [← Array.getElem?_toList, x2] at k2
  rw [← Array.getElem?_toList, x3] at k3
  refine ⟨?_, ⟨ev2, k2, y2⟩, ⟨ev3, k3, y3⟩, ?_⟩
  · unfold Lib.TabIs
    rw [c1, ← e1]
  · have h3 := World.block_lt_of_cell? _ _ k2
    have h4 := World.block_lt_of_cell? _ _ k3
    simp only at h3 h4
    omega

theorem readReply : Tryd.prog.readableRec 24 = true := by kernel_rfl
theorem inReply : 24 < Tryd.prog.types.size := of_decide_eq_true (by kernel_rfl)

set_option maxRecDepth 100000 in
theorem contract (H : Type) (enc : TypeId × Value → H) (W : World) (base : Nat) (args : Array Value) (ds gs : List (DataW H)) (before : List MemPlace)
    (hval : ∀ (j : Nat) t v, Tryd.f4.params[j]? = some t → args[j]? = some v → Value.okWide Tryd.prog W .any base t v)
    (hW : DataW.Whole enc Tryd.prog Tryd.f4.params.toList Rows.replyBackSpec.vars false W args.toList ds gs before) (hk : Rows.uptoSmall H (ds ++ gs) = true)
    (hl : laidMetH Tryd.prog Rows.replyBackUptoRow.laid W) :
    Calls Tryd.prog 4 args W fun e W' => ∃ v, e = .returned v ∧ Rows.replyBackSpec.post enc Tryd.prog Tryd.f4 false true false false W args v W' := by
  have hW' := hW
  obtain ⟨p, q, hA0, hV, rfl, hfz, hnd⟩ := hW
  have hA : DataW.TrodAll enc Tryd.prog W 0 (fun _ => true) true Tryd.f4.params.toList args.toList ds p := hA0
  rw [Tryd.params4] at hA hval
  obtain ⟨v0, vs0, d0, ds0, p0, q0, hargs, rfl, rfl, h0, r0⟩ := trodAll_cons hA
  obtain ⟨v1, vs1, d1, ds1, p1, q1, rfl, rfl, rfl, h1, r1⟩ := trodAll_cons r0
  obtain ⟨v2, vs2, d2, ds2, p2, q2, rfl, rfl, rfl, h2, r2⟩ := trodAll_cons r1
  obtain ⟨rfl, rfl, rfl⟩ := trodAll_nil r2
  obtain rfl : args = #[v0, v1, v2] := by cases args; simp_all
  obtain ⟨rfl, rfl⟩ := trodVars_none hV
  obtain ⟨s, rfl, rfl, rfl, hmax⟩ := open_string Tryd.underlying9 (hval 2 9 v2 rfl rfl) h2
  clear hA0
  simp only [List.append_nil] at hW' hk
  have hlt : ∀ x ∈ p0 ++ p1, x.block < W.heap.size := fun x hx => by simpa using hW'.lt x (by simpa using hx)
  obtain ⟨x, rfl, hx⟩ := top_of_trod (hval 0 24 v0 rfl rfl) h0
  obtain ⟨y, rfl, hy⟩ := top_of_trod (hval 1 24 v1 rfl rfl) h1
  have hbd : Rows.uptoBulkAll [d0, d1, DataW.lit (H := H) (.string s.data.toList)] ≤ 1048576 := of_decide_eq_true hk
  simp only [Rows.uptoBulkAll, Rows.uptoBulk] at hbd
  have hsl : s.data.toList.length = s.size := size_list s
  refine (replyBack_walk x y s W (env_of hl) hx hy (by omega)).mono fun e W' ⟨he, hb⟩ => ?_
  subst he
  have hback : DataW.TrodAll enc Tryd.prog W' 0 (fun b => decide (b < W.heap.size)) true [24, 24, 9] [x.val, y.val, .string s] [d0, d1, .lit (.string s.data.toList)] (p0 ++ p1) := by
    have t0 := Below.trod laidOut readReply inReply h0 hb (fun z hz => hlt z (by simp [hz]))
    have t1 := Below.trod laidOut readReply inReply h1 hb (fun z hz => hlt z (by simp [hz]))
    simpa using trodAll_cons_mk t0 (trodAll_cons_mk t1 (trodAll_cons_mk (shut_string Tryd.underlying9 hmax) trodAll_mk0))
  exact ⟨_, rfl, _, _, _, [], p0 ++ p1, [], hW', trodAll_cons_mk (shut_bool Tryd.underlying4 _) trodAll_mk0, hback, rfl, hb.frame _, fun h => by cases h⟩

def zArg : Value := .agg #[.int .i64 0, .string ⟨#[]⟩, .int .i64 0, .slice none 0 0]
def zData {H : Type} : DataW H := .agg [.lit (.int .i64 0), .lit (.string []), .lit (.int .i64 0), .nil]
theorem laid_met (os : Os) : laidMet Tryd.prog Rows.replyBackUptoRow.laid ((World.laidAll Tryd.prog os Rows.replyBackUptoRow.laid).forCall (fun _ _ => 0) ⟨#[], #[zArg, zArg, .string ⟨#[]⟩], []⟩).memory :=
  laidMet_laidAll _ (by kernel_rfl) (by kernel_rfl)
theorem laid_metH (os : Os) : laidMetH Tryd.prog Rows.replyBackUptoRow.laid ((World.laidAll Tryd.prog os Rows.replyBackUptoRow.laid).forCall (fun _ _ => 0) ⟨#[], #[zArg, zArg, .string ⟨#[]⟩], []⟩).memory := by
  rw [Go.MakeChecks.laidMetH_plain _ _ _ (by kernel_rfl)]
  exact laid_met os
theorem reads (os : Os) {H : Type} (enc : TypeId × Value → H) : ∃ places, DataW.whole enc Tryd.prog ((World.laidAll Tryd.prog os Rows.replyBackUptoRow.laid).forCall (fun _ _ => 0) ⟨#[], #[zArg, zArg, .string ⟨#[]⟩], []⟩).memory Tryd.f4.params.toList Rows.replyBackSpec.vars false #[zArg, zArg, Value.string ⟨#[]⟩].toList 8 = some ([zData, zData, .lit (.string [])], [], places) :=
  ⟨[], by kernel_rfl⟩

set_option maxRecDepth 100000 in
theorem liftedUpto (os : Os) (started : os.Started) (H : Type) (enc : TypeId × Value → H) (F : Stop.Interp) :
    ReturnsInHanded {} Tryd.checked os 4 .any ((Rows.OpenSpec.upto Rows.replyBackSpec).preRow enc Tryd.prog Tryd.f4 Rows.replyBackUptoRow.domain false Rows.replyBackUptoRow.laid) (((Rows.OpenSpec.upto Rows.replyBackSpec).at F).post enc Tryd.prog Tryd.f4 false true false false) := by
  obtain ⟨places, hx⟩ := reads os enc
  refine returnsInHanded_of_row (C := Tryd.checked) (s := Rows.OpenSpec.upto Rows.replyBackSpec) own started (by kernel_rfl) Tryd.func4
    (witness_row_at (enc := enc) (C := Tryd.checked) false (World.laidAll Tryd.prog os Rows.replyBackUptoRow.laid) #[zArg, zArg, .string ⟨#[]⟩] (World.laidAll_os _ _ _) (by kernel_rfl) (by kernel_rfl) (by kernel_rfl)
      (OpenSpec.preRow_of_cond 8 hx (by kernel_rfl) (fun k hk => by cases hk; kernel_rfl) (by kernel_rfl) (laid_metH os))) ?_
  intro W base args ds gs before hval hW _ hcond _ hl _ _
  exact contract H enc W base args ds gs before hval hW (hcond _ rfl) hl

theorem saidUpto : Rows.ReplyBackUptoSaid :=
  OpenClaim.holds_of_cond 4 Tryd.f4 rfl rfl rfl rfl rfl rfl rfl ⟨rfl, rfl, rfl, rfl, rfl⟩ rfl rfl rfl rfl rfl (by kernel_rfl) Tryd.func4 (by kernel_rfl)
    (of_decide_eq_true (by kernel_rfl)) (by unfold Func.isWrapper; first | (rw [if_pos (by decide +kernel)]; kernel_rfl) | (rw [if_neg (by decide +kernel)]; exact ⟨rfl, rfl⟩))
    (fun os started H enc _ F => by rw [OpenClaim.pre_eq_preRow]; exact liftedUpto os started H enc F)

theorem plain (f : FuncId) (fn : Func) (hf : Tryd.pinned.checked.prog.funcNamed "springhouse/springhouselaw.ReplyBack" = some f) (hfn : Tryd.pinned.checked.prog.funcs[f]? = some fn) :
    true = Tryd.pinned.checked.prog.looks [] ∧ ∀ (j : Nat) t, fn.params[j]? = some t → Tryd.pinned.checked.prog.wantsStandIn t = false := by
  obtain rfl : f = 4 := Option.some.inj ((show Tryd.prog.funcNamed "springhouse/springhouselaw.ReplyBack" = some 4 by kernel_rfl).symm.trans hf) |>.symm
  obtain rfl : fn = Tryd.f4 := (Option.some.inj (Tryd.func4.symm.trans hfn)).symm
  refine ⟨by kernel_rfl, fun j t ht => ?_⟩
  rw [Tryd.params4] at ht
  have hm := Array.mem_of_getElem? ht
  simp at hm
  rcases hm with rfl | rfl
  · exact (show Tryd.prog.wantsStandIn 24 = false by kernel_rfl)
  · exact (show Tryd.prog.wantsStandIn 9 = false by kernel_rfl)

/-- THE SECOND FORM's CARD -/
theorem cardUpto : Rows.ReplyBackUptoCardSaid :=
  Claim7.holds_tied_plain_at .later [] _ _ _ _ saidUpto (fun _ h => by cases h) (by kernel_rfl) (fun _ h => by cases h) replyBackUpto_row_tie rfl ⟨rfl, rfl⟩ (by kernel_rfl) rfl plain (by kernel_rfl)
end Go.Proofs.YtolpmaapdkhigaaDoor.replyBack
namespace Go.Proofs.YtolpmaapdkhigaaDoor
/-- THE SECOND FORM's CARD OF ReplyBack. -/
theorem replyBack_holds : Rows.ReplyBackUptoCardSaid := replyBack.cardUpto
end Go.Proofs.YtolpmaapdkhigaaDoor
