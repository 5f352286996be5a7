/- WALK of hashes: where a pair stands; Get. -/
import Derived.Test.YtnobcdhlagfhmaaHTog
import Derived.Test.YtnobcdhlagfhmaaComC
import Derived.Test.YtnobcdhlagfhmaaBoxes
import Derived.Test.YtnobcdhlagfhmaaISame
import Derived.Test.YtnobcdhlagfhmaaIEnc2
import Derived.Shelf.SlicesQ.IndexFunc
import Derived.Handy
namespace Go.Proofs.Ytnobcdhlagfhmaa
open Go.RowKit Go.Maps Go.Shelf

/-- where the first one stands that is asked for; -1, if there is none -/
def idxF (p : Pr → Bool) : List Pr → Int
  | [] => -1
  | x :: r => if p x = true then 0 else if idxF p r < 0 then -1 else idxF p r + 1
theorem idxF_lo (p : Pr → Bool) (l : List Pr) : -1 ≤ idxF p l := by
  induction l with
  | nil => simp [idxF]
  | cons x r ih => rw [idxF]; split <;> try split
                   all_goals omega
theorem idxF_hi (p : Pr → Bool) (l : List Pr) : idxF p l < l.length := by
  induction l with
  | nil => simp [idxF]
  | cons x r ih => rw [idxF, List.length_cons]; split <;> try split
                   all_goals omega
theorem idxF_none {p : Pr → Bool} {l : List Pr} (h : idxF p l < 0) : ∀ x ∈ l, p x = false := by
  induction l with
  | nil => intro x hx; cases hx
  | cons a r ih =>
    rw [idxF] at h
    split at h
    · omega
    · rename_i ha
      split at h
      · rename_i hr
        intro x hx
        rcases List.mem_cons.1 hx with e | hx
        · rw [e]; simpa using ha
        · exact ih hr x hx
      · omega
theorem idxF_at {p : Pr → Bool} {l : List Pr} {i : Nat} (h : idxF p l = i) : ∃ hi : i < l.length, p l[i] = true ∧ ∀ j (hj : j < i), p (l[j]'(by omega)) = false := by
  induction l generalizing i with
  | nil => simp [idxF] at h
  | cons a r ih =>
    rw [idxF] at h
    split at h
    · rename_i ha
      obtain rfl : i = 0 := by omega
      exact ⟨by simp, ha, fun j hj => absurd hj (by omega)⟩
    · rename_i ha
      split at h
      · omega
      · obtain ⟨k, hk⟩ : ∃ k : Nat, idxF p r = k := ⟨(idxF p r).toNat, by omega⟩
        obtain rfl : i = k + 1 := by omega
        obtain ⟨h1, h2, h3⟩ := ih hk
        refine ⟨by simp; omega, by simpa using h2, fun j hj => ?_⟩
        cases j with
        | zero => simpa using ha
        | succ j => simpa using h3 j (by omega)
theorem idxByFrom_idxF (p : Pr → Bool) (d : Pr) (l : List Pr) : ∀ i : Nat, Lib.idxByFrom (fun _ y => p y) d l i = if idxF p l < 0 then -1 else idxF p l + i := by
  induction l with
  | nil => intro i; simp [Lib.idxByFrom, idxF]
  | cons x r ih =>
    intro i
    rw [Lib.idxByFrom, idxF]
    by_cases hx : p x = true
    · rw [if_pos hx, if_pos hx]
      simp
    · rw [if_neg hx, if_neg hx, ih (i + 1)]
      have := idxF_lo p r
      by_cases h0 : idxF p r < 0
      · rw [if_pos h0, if_pos h0]; simp
      · rw [if_neg h0, if_neg h0, if_neg (by omega)]
        omega
theorem idxBy_idxF (p : Pr → Bool) (l : List Pr) (d : Pr) : Lib.idxBy (fun _ y => p y) l d = idxF p l := by
  rw [Lib.idxBy, idxByFrom_idxF]
  have := idxF_lo p l
  split <;> omega
set_option maxRecDepth 100000 in
theorem idxP_none (a : Option Addr) (cap : Nat) (fv : Value) (w : World) : Calls Try.prog 25 #[.slice a 0 cap, fv] w fun e w' => e = .returned (.int .i64 (-1)) ∧ w' = w := by
  go_enter Try.func25, Try.ntmps25
  go_wp2_with fail
  refine wp_loop_rounds 1 ?_
  rw [rounds_succ]
  go_wp2_with fail
  go_ret
  exact ⟨rfl, rfl⟩
theorem idxP_any (gf : Nat) (lb : Array Value) (eg : ∀ args w, (callFunc gf args).run Try.prog w = .ok (.enter gf args) w) (p : Pr → Bool) (a : Option Addr) (cap : Nat) (ts : List Pr) (w : World) (hs : PairsAt w a ts) (hn : ts.length ≤ 2000000)
    (hp : ∀ W x, Below w.heap.size w W → Calls Try.prog gf (#[encPr x] ++ lb) W fun e w' => e = .returned (.bool (p x)) ∧ Below w.heap.size w w') :
    Calls Try.prog 25 #[.slice a ts.length cap, .func (.func gf) #[] lb] w fun e w' => e = .returned (.int .i64 (idxF p ts)) ∧ Below w.heap.size w w' := by
  rcases hs with rfl | ⟨g, o, rfl, hc⟩
  · exact (idxP_none a cap _ w).mono fun e w' ⟨h1, h2⟩ => ⟨h1, h2 ▸ Below.refl _ _⟩
  · by_cases h0 : ts = []
    · subst h0
      exact (idxP_none _ cap _ w).mono fun e w' ⟨h1, h2⟩ => ⟨h1, h2 ▸ Below.refl _ _⟩
    · have hpos : 0 < ts.length := List.length_pos_iff.2 h0
      have hb : g < w.heap.size := World.block_lt_of_cell? _ _ (hc 0 hpos).1
      have hh := AnyQ.slices_IndexFunc Try.layIdxPair 2 isAggP sizeOfP encL (fun _ => rfl) p gf lb eg g o ts.length cap ts w hp (Nat.le_refl _) (by omega) hb (fun j hj i v hv => by
        obtain ⟨d0, d1⟩ := hc j hj
        have e : ts[j]! = ts[j] := by simp [hj]
        rw [e] at hv
        match i, hv with
        | 0, hv => simp [encL] at hv; subst hv; exact d0
        | 1, hv => simp [encL] at hv; subst hv; exact d1)
      rw [List.take_length, idxBy_idxF] at hh
      exact hh
theorem beq_fd (a b : ByteArray) : (a.toList == b.toList) = decide (a = b) := by
  rw [Bool.eq_iff_iff]
  simp only [beq_iff_eq, decide_eq_true_eq]
  exact ⟨bytes_inj, fun e => by rw [e]⟩
/-- is it of this field? -/
def fieldIs (f : ByteArray) (p : Pr) : Bool := decide (p.1 = f)
def getE (x : Itm) (f : ByteArray) : Int := if asI x 4 ≠ 0 then asI x 4 else if idxF (fieldIs f) x.p < 0 then 5 else 0
def getS (x : Itm) (f : ByteArray) : ByteArray := if asI x 4 ≠ 0 then ⟨#[]⟩ else match lastP x.p f with | some p => p.2 | none => ⟨#[]⟩
set_option maxRecDepth 100000 in
theorem getFn_any (b : Nat) (f : ByteArray) (x : Pr) (W : World) (hc : W.cell? ⟨b, 0, none⟩ = some (.string f)) : Calls Try.prog 26 #[.agg #[.string x.1, .string x.2], .pointer (some ⟨b, 0, none⟩)] W fun e w' => e = .returned (.bool (fieldIs f x)) ∧ Below W.heap.size W w' := by
  have hbl := World.block_lt_of_cell? _ _ hc
  have hc2 : (W.alloc (.cells #[.string x.1, .string x.2] 37)).cell? ⟨b, 0, none⟩ = some (.string f) := (((Below.refl _ W).alloc (Nat.le_refl _) _).cell (p := ⟨b, 0, none⟩) hbl).trans hc
  have hbq := beq_fd x.1 f
  unfold fieldIs
  go_enter Try.func26, Try.ntmps26
  go_wp2_with fail
  go_ret
  exact ⟨by rw [← hbq]; rfl, (Below.refl _ W).alloc (Nat.le_refl _) _⟩
/-- what an item of a hash has -/
theorem risesP_of_riseTo {l : List Pr} (h : riseTo cmpP l l.length = true) : RisesP l := by
  have hadj : ∀ j, j + 1 < l.length → lessT l[j]!.1 l[j + 1]!.1 := fun j hj => by
    rw [riseTo, List.all_eq_true] at h
    have := h j (List.mem_range.2 (by omega))
    simp only [decide_eq_true_eq] at this
    exact (cmpT_lt _ _).1 this
  have hfar : ∀ d i, i + d + 1 < l.length → lessT l[i]!.1 l[i + d + 1]!.1 := fun d => by
    induction d with
    | zero => exact fun i hi => hadj i hi
    | succ d ih => exact fun i hi => lessT_trans (ih i (by omega)) (hadj (i + d + 1) (by omega))
  rw [RisesP, List.pairwise_iff_getElem]
  intro i j hi hj hij
  have := hfar (j - i - 1) i (by omega)
  rw [show i + (j - i - 1) + 1 = j by omega] at this
  simpa [hi, hj] using this
theorem asI_hash {x : Itm} (h : asI x 4 = 0) : RisesP x.p ∧ x.p.length ≤ 24 ∧ ∀ p ∈ x.p, p.1.size ≤ 60 ∧ p.2.size ≤ 60 := by
  unfold asI at h
  split at h
  · rename_i hn
    unfold Itm.isNone at hn
    rw [decide_eq_true_eq] at hn
    rw [hn.2.2.2.1]
    exact ⟨List.Pairwise.nil, by simp, by simp⟩
  · split at h
    · rename_i h1; exact absurd h h1
    · rename_i h1
      have h1 : chkI x = 0 := by simpa using h1
      split at h
      · cases h
      · rename_i hk
        have hk : x.k = 4 := by simpa using hk
        have R := right_of h1
        refine ⟨?_, R.pn, R.pz⟩
        unfold chkI at h1
        rw [if_neg (by omega)] at h1
        split at h1
        · cases h1
        · rw [if_neg (by omega), if_neg (by omega)] at h1
          try rw [if_pos hk] at h1
          unfold hashT at h1
          split at h1
          · rename_i h2; exact absurd h1 h2
          · split at h1
            · rename_i h3; exact risesP_of_riseTo h3
            · cases h1
set_option maxRecDepth 100000 in
set_option maxHeartbeats 2000000 in
theorem hashGet_any (v : Value) (x : Itm) (f : ByteArray) (w : World) (h : ItemIs w v x) :
    Calls Try.prog 7 #[v, .string f] w fun e w' => e = .returned (.tuple #[.string (getS x f), .int .i64 (getE x f)]) ∧ Below w.heap.size w w' := by
  have HI := hide h
  obtain ⟨⟨a1, c1, a2, c2, a3, c3, rfl, -, hx2, -⟩, -, -, -, -, -, hl2, -⟩ := h
  have HX := hide hx2
  have HC : Hid (∀ W, Below w.heap.size w W → Calls Try.prog 20 #[.agg #[.int .i64 x.k, .string x.t, .slice a1 x.l.length c1, .slice a2 x.p.length c2, .slice a3 x.s.length c3], .int .i64 4] W fun e w' => e = .returned (.int .i64 (asI x 4)) ∧ Below W.heap.size W w') := fun W hW => common_any _ x 4 W (HI.out.below hW)
  clear hx2 HI
  by_cases h0 : asI x 4 = 0
  · obtain ⟨hR, h24, -⟩ := asI_hash h0
    have eg : ∀ args w, (callFunc 26 args).run Try.prog w = .ok (.enter 26 args) w := enters_of Try.func26 (by kernel_rfl) rfl
    have HN : Hid (∀ W b, Below w.heap.size w W → W.cell? ⟨b, 0, none⟩ = some (.string f) → Calls Try.prog 25 #[.slice a2 x.p.length c2, .func (.func 26) #[] #[.pointer (some ⟨b, 0, none⟩)]] W fun e w' => e = .returned (.int .i64 (idxF (fieldIs f) x.p)) ∧ Below W.heap.size W w') := fun W b hW hb => idxP_any 26 #[.pointer (some ⟨b, 0, none⟩)] eg (fieldIs f) a2 c2 x.p W (HX.out.below hW) (by omega) (fun V y hV => (getFn_any b f y V ((hV.cell (p := ⟨b, 0, none⟩) (World.block_lt_of_cell? _ _ hb)).trans hb)).mono fun e w' ⟨h1, h2⟩ => ⟨h1, hV.trans (h2.mono hV.size)⟩)
    rw [h0] at HC
    have hlo := idxF_lo (fieldIs f) x.p
    have hhi := idxF_hi (fieldIs f) x.p
    obtain ⟨GS, GE, hGS, hGE, HG⟩ : ∃ GS GE, GS = getS x f ∧ GE = getE x f ∧ Hid ((idxF (fieldIs f) x.p < 0 → GS = ⟨#[]⟩ ∧ GE = 5) ∧ ∀ (i : Nat) (hi : i < x.p.length), idxF (fieldIs f) x.p = i → GS = x.p[i].2 ∧ GE = 0) := by
      refine ⟨_, _, rfl, rfl, ?_, ?_⟩
      · intro hneg
        have hno : lastP x.p f = none := by
          unfold lastP
          rw [List.find?_eq_none]
          intro q hq
          have := idxF_none hneg q (by simpa using hq)
          simpa [fieldIs] using this
        rw [getE, getS, if_neg (by simp [h0]), if_neg (by simp [h0]), hno, if_pos hneg]
        exact ⟨rfl, rfl⟩
      · intro i hi he
        obtain ⟨hil, hpi, -⟩ := idxF_at he
        have hfi : x.p[i].1 = f := by simpa [fieldIs] using hpi
        have hlast : lastP x.p f = some x.p[i] := by
          have := (lastP_rises hR (p := x.p[i])).2 (List.getElem_mem _)
          rwa [hfi] at this
        rw [getE, getS, if_neg (by simp [h0]), if_neg (by simp [h0]), hlast, if_neg (by omega)]
        exact ⟨rfl, rfl⟩
    rw [← hGS, ← hGE]
    clear hGS hGE
    go_enter Try.func7, Try.ntmps7
    go_wp2_with fail
    have C0 : Below w.heap.size w ((w.alloc (.cells #[.int .i64 x.k, .string x.t, .slice a1 x.l.length c1, .slice a2 x.p.length c2, .slice a3 x.s.length c3] 26)).alloc (.cells #[.string f] 9)) := ((Below.refl _ w).alloc (Nat.le_refl _) _).alloc (by simp) _
    refine (HC.out _ C0).mono ?_
    rintro e w1 ⟨rfl, hb1⟩
    have C1 := C0.trans (hb1.mono C0.size)
    obtain ⟨hc, hf⟩ := bcell hb1
    have hz : w.heap.size + 1 < w1.heap.size := by have := hb1.size; simp at this; omega
    have hz0 : w.heap.size < w1.heap.size := by omega
    have q2 : w1.cell? ⟨w.heap.size, 3, none⟩ = some (.slice a2 x.p.length c2) := (hc _ _ (by simp; omega)).trans (by simp [go_sem])
    have qf : w1.cell? ⟨w.heap.size + 1, 0, none⟩ = some (.string f) := (hc _ _ (by simp)).trans (by simp [go_sem])
    clear hc hf hb1
    go_wp2_with fail
    refine (HN.out _ _ C1 qf).mono ?_
    rintro e w2 ⟨rfl, hb2⟩
    have C2 := C1.trans (hb2.mono C1.size)
    have q3 : w2.cell? ⟨w.heap.size, 3, none⟩ = some (.slice a2 x.p.length c2) := (hb2.cell (p := ⟨w.heap.size, 3, none⟩) hz0).trans q2
    by_cases hneg : idxF (fieldIs f) x.p < 0
    · go_wp2_with fail
      refine bodyPost_ret (v := .tuple #[.string ⟨#[]⟩, .int .i64 5]) (by simp [results, Try.results7, go_sem]) rfl ⟨?_, C2⟩
      rw [(HG.out.1 hneg).1, (HG.out.1 hneg).2]
    · obtain ⟨i, hi⟩ : ∃ i : Nat, idxF (fieldIs f) x.p = i := ⟨(idxF (fieldIs f) x.p).toNat, by omega⟩
      obtain ⟨hil, -, -⟩ := idxF_at hi
      obtain ⟨g, o, rfl, hcs⟩ : ∃ g o, a2 = some ⟨g, o, none⟩ ∧ ∀ i (h : i < x.p.length), w.cell? ⟨g, o + i * 2, none⟩ = some (.string x.p[i].1) ∧ w.cell? ⟨g, o + i * 2 + 1, none⟩ = some (.string x.p[i].2) := by
        rcases HX.out with h | h
        · rw [h] at hil; simp at hil
        · exact h
      have d1 := (C2.cell (p := ⟨g, o + i * 2 + 1, none⟩) (World.block_lt_of_cell? _ _ (hcs i hil).2)).trans (hcs i hil).2
      have hil' : ((i : Nat) : Int) < ((x.p.length : Nat) : Int) := by omega
      have HG2 := hide (HG.out.2 i hil hi)
      rw [hi] at hneg ⊢
      clear hcs HN HC HX HG hlo hhi hi
      generalize x.p[i].2 = X2 at *
      go_wp2_with fail
      refine bodyPost_ret (v := .tuple #[.string X2, .int .i64 0]) (by simp [results, Try.results7, go_sem]) rfl ⟨?_, C2⟩
      rw [HG2.out.1, HG2.out.2]
  · rw [getE, getS, if_pos h0, if_pos h0]
    generalize asI x 4 = E at *
    go_enter Try.func7, Try.ntmps7
    go_wp2_with fail
    have C0 : Below w.heap.size w ((w.alloc (.cells #[.int .i64 x.k, .string x.t, .slice a1 x.l.length c1, .slice a2 x.p.length c2, .slice a3 x.s.length c3] 26)).alloc (.cells #[.string f] 9)) := ((Below.refl _ w).alloc (Nat.le_refl _) _).alloc (by simp) _
    refine (HC.out _ C0).mono ?_
    rintro e w1 ⟨rfl, hb1⟩
    have C1 := C0.trans (hb1.mono C0.size)
    go_wp2_with fail
    refine bodyPost_ret (v := .tuple #[.string ⟨#[]⟩, .int .i64 E]) (by simp [results, Try.results7, go_sem]) rfl ⟨rfl, C1⟩
end Go.Proofs.Ytnobcdhlagfhmaa
