/- WALK of ReplyTells. -/
import Derived.Test.YtolpmaapdkhigaaDoorTells13
import Derived.Test.YtolpmaapdkhigaaDoorTells14
import Derived.Handy
namespace Go.Proofs.YtolpmaapdkhigaaDoor
open Go.RowKit

def zTop : Top := ⟨0, ⟨#[]⟩, 0, none, 0, []⟩
/-- what reading these bytes must answer -/
def codeOf (s : ByteArray) : Int :=
  match pAll s.data.toList with
  | .error _ => 1
  | .ok g => gotCheck g
def StandsFor (s : ByteArray) (y : Top) : Prop :=
  match pAll s.data.toList with
  | .error _ => y = zTop
  | .ok g => (gotCheck g = 0 → y.got = g ∧ y.check = 0) ∧ (gotCheck g ≠ 0 → y = zTop)
theorem zTop_val : zTop.val = .agg zCells := rfl
theorem zTop_lies (w : World) : zTop.Lies w := ⟨.inl rfl, show (⟨#[]⟩ : ByteArray).size ≤ maxLen by decide⟩
theorem stands_of {s : ByteArray} {w : World} (hs : s.size ≤ 281474976710656) {e : Ending} {w' : World} (h : DecPost s w e w') :
    Below w.heap.size w w' ∧ ∃ y : Top, e = .returned (.tuple #[y.val, .int .i64 (codeOf s)]) ∧ y.Lies w' ∧ StandsFor s y := by
  obtain ⟨hb, herr, hok⟩ := h
  refine ⟨hb, ?_⟩
  unfold codeOf StandsFor
  cases hp : pAll s.data.toList with
  | error n => exact ⟨zTop, herr n hp, zTop_lies _, rfl⟩
  | ok g =>
    obtain ⟨h1, h2⟩ := hok g hp
    by_cases hg : gotCheck g = 0
    · obtain ⟨v, rfl, hv⟩ := h1 hg
      obtain ⟨z, rfl, h3, h4, h5, _⟩ := got_view hv (pAll_fine hp) (fun r hr => by have := pAll_size hp r hr; rw [size_list] at this; unfold maxLen; omega)
      exact ⟨z, by simp only [hg], h3, fun _ => ⟨h4, h5.trans hg⟩, fun hne => absurd hg hne⟩
    · exact ⟨zTop, h2 hg, zTop_lies _, fun he => absurd he hg, fun _ => rfl⟩
theorem same_stands {s : ByteArray} {y z : Top} (hy : StandsFor s y) (hz : StandsFor s z) (w : World) (ly : y.Lies w) (lz : z.Lies w) :
    Calls Tryd.prog 14 #[y.val, z.val] w fun e w' => e = .returned (.bool true) ∧ Below w.heap.size w w' := by
  unfold StandsFor at hy hz
  cases hp : pAll s.data.toList with
  | error n =>
    rw [hp] at hy hz
    simp only at hy hz
    subst hy hz
    exact same_zero 0 ⟨#[]⟩ 0 none none 0 0 w
  | ok g =>
    rw [hp] at hy hz
    simp only at hy hz
    by_cases hg : gotCheck g = 0
    · obtain ⟨a1, a2⟩ := hy.1 hg
      obtain ⟨b1, b2⟩ := hz.1 hg
      exact same_any y z w ly lz a2 b2 (a1.trans b1.symm)
    · have e1 := hy.2 hg
      have e2 := hz.2 hg
      subst e1 e2
      exact same_zero 0 ⟨#[]⟩ 0 none none 0 0 w
theorem still {w w' : World} {b : Nat} {o : Obj} (h : w.heap[b]? = some o) (hb : Below w.heap.size w w') : w'.heap[b]? = some o := by
  have hl : b < w.heap.size := by
    rcases Nat.lt_or_ge b w.heap.size with h1 | h1
    · exact h1
    · rw [Array.getElem?_eq_none (by simpa using h1)] at h; simp at h
  exact (hb.block b hl).trans h
theorem below1 {w w' : World} {o : Obj} (hb : Below (w.alloc o).heap.size (w.alloc o) w') : Below w.heap.size w w' := ((Below.refl _ w).alloc (Nat.le_refl _) _).trans (hb.mono (by simp))

set_option maxRecDepth 100000 in
set_option maxHeartbeats 4000000 in
theorem replyTells_walk (x : Top) (s : ByteArray) (w : World) (he : Env w) (hx : x.Lies w) (hs : s.size ≤ 281474976710656) :
    Calls Tryd.prog 3 #[x.val, .string s] w fun e w' => e = .returned (.bool true) ∧ Below w.heap.size w w' := by
  have HBG : Hid (∀ w1, Below w.heap.size w w1 → Calls Tryd.prog 12 #[] w1 fun e w' => e = .returned (.bool true) ∧ Below w1.heap.size w1 w') := fun w1 hb => replyBegun_any w1 (he.below hb)
  have HEX : Hid (∀ w1, Below w.heap.size w w1 → Calls Tryd.prog 7 #[x.val] w1 fun e w' => e = .returned (.tuple #[.string ⟨x.out.toArray⟩, .int .i64 x.check]) ∧ Below w1.heap.size w1 w') := fun w1 hb => encTop_any x w1 (he.below hb) (hx.below hb)
  have HCX : Hid (∀ w1, Below w.heap.size w w1 → Calls Tryd.prog 13 #[x.val] w1 fun e w' => e = .returned (.int .i64 x.check) ∧ Below w1.heap.size w1 w') := fun w1 hb => checkTop x w1 (hx.below hb)
  have HRX : Hid (∀ w1, Below w.heap.size w w1 → Calls Tryd.prog 9 #[x.val] w1 fun e w' => e = .returned (.int .i64 x.check) ∧ Below w1.heap.size w1 w') := fun w1 hb => refReply_any x.k x.t x.n x.a x.cap x.rs w1 hx.small (hx.below hb).list
  have HRB : Hid (x.check = 0 → ∀ w1, Below w.heap.size w w1 → Calls Tryd.prog 10 #[x.val] w1 fun e w' => e = .returned (.string ⟨x.out.toArray⟩) ∧ Below w1.heap.size w1 w') := fun hc w1 hb => by
    rw [Top.out, if_pos hc]
    exact refBytes_any x.k x.t x.n x.a x.cap x.rs w1 (hx.below hb).list hc
  have hout : ¬ x.check = 0 → (⟨x.out.toArray⟩ : ByteArray) = ⟨#[]⟩ := fun hc => by rw [Top.out, if_neg hc]
  have HDS : Hid (∀ w1, Below w.heap.size w w1 → Calls Tryd.prog 8 #[.string s] w1 fun e w' => Below w1.heap.size w1 w' ∧ ∃ y : Top, e = .returned (.tuple #[y.val, .int .i64 (codeOf s)]) ∧ y.Lies w' ∧ StandsFor s y) := fun w1 hb => (decode_any s w1 hs (he.below hb)).mono fun _ _ h => stands_of hs h
  have HRO : Hid (∀ w1, Calls Tryd.prog 11 #[.string s] w1 fun e w' => Below w1.heap.size w1 w' ∧ ∃ y : Top, e = .returned (.tuple #[y.val, .int .i64 (codeOf s)]) ∧ y.Lies w' ∧ StandsFor s y) := fun w1 => (replyOf_any s w1 hs).mono fun _ _ h => stands_of hs h
  clear he
  generalize (⟨x.out.toArray⟩ : ByteArray) = T at *
  generalize x.check = C at *
  generalize codeOf s = K at *
  obtain ⟨k, t, n, a, cap, rs⟩ := x
  simp only [Top.val] at HEX HCX HRX HRB ⊢
  generalize rs.length = len at *
  clear hx
  have hB : ∀ W : World, Hid (W.heap[w.heap.size]? = some (.cells #[.int .i64 k, .string t, .int .i64 n, .slice a len cap] 24) → Four W w.heap.size (.int .i64 k) (.string t) (.int .i64 n) (.slice a len cap)) := fun W h => four_of h
  go_enter Tryd.func3, Tryd.ntmps3
  go_wp2_with fail
  refine (HEX.out _ ((Below.refl _ w).alloc (Nat.le_refl _) _)).mono ?_
  rintro e w1 ⟨rfl, hb1⟩
  have H1 := hide (still (heap_alloc_new w _) hb1)
  have hw1 := below1 hb1
  have hz1 : w.heap.size + 1 ≤ w1.heap.size := by have := hb1.size; simpa using this
  clear hb1 HEX
  go_wp2_with fail
  refine (HDS.out _ hw1).mono ?_
  rintro e w2 ⟨hb2, y, rfl, hy, hst⟩
  have hz2 := hb2.size
  have HY := hide hy
  have HST := hide hst
  have HYV : Hid (∃ yk yt yn ya yl yc, y.val = .agg #[.int .i64 yk, .string yt, .int .i64 yn, .slice ya yl yc]) := ⟨_, _, _, _, _, _, rfl⟩
  obtain ⟨yk, yt, yn, ya, yl, yc, hyv⟩ := HYV.out
  have hyvH := hide hyv
  rw [hyv]
  have H2 : Hid (∀ o, (w2.alloc o).heap[w.heap.size]? = some (.cells #[.int .i64 k, .string t, .int .i64 n, .slice a len cap] 24)) := fun o => still (still H1.out hb2) ((Below.refl _ w2).alloc (Nat.le_refl _) o)
  have hw2 : ∀ o, Below w.heap.size w (w2.alloc o) := fun o => (hw1.trans (hb2.mono (by omega))).alloc (by omega) o
  clear hy hst HYV hyv hb2 HDS H1 hw1
  have c0 := fun o => (four_of (H2.out o)).c0
  have c1 := fun o => (four_of (H2.out o)).c1
  have c2 := fun o => (four_of (H2.out o)).c2
  have c3 := fun o => (four_of (H2.out o)).c3
  go_wp2_with fail
  refine (HRX.out _ (hw2 _)).mono ?_
  rintro e w3 ⟨rfl, hb3⟩
  clear c0 c1 c2 c3
  have h3 := still (H2.out (.cells #[.int .i64 yk, .string yt, .int .i64 yn, .slice ya yl yc] 24)) hb3
  have hy3 := still (heap_alloc_new w2 (.cells #[.int .i64 yk, .string yt, .int .i64 yn, .slice ya yl yc] 24)) hb3
  have HL3 := hide (HY.out.below (below1 hb3))
  have hw3 : Below w.heap.size w w3 := (hw2 _).trans (hb3.mono (by simp; omega))
  have hz3 : w2.heap.size + 1 ≤ w3.heap.size := by have := hb3.size; simpa using this
  have H3 := hide h3
  have HY3 := hide hy3
  obtain ⟨c0, c1, c2, c3, f0, f1, f2, f3⟩ := four_of h3
  clear f0 f1 f2 f3 h3 hy3 hb3 H2 hw2 HY HRX
  by_cases hC : C = 0
  · subst hC
    go_wp2_with fail
    refine (HRB.out trivial _ hw3).mono ?_
    rintro e w4 ⟨rfl, hb4⟩
    have H4 := hide (still H3.out hb4)
    have HY4 := hide (still HY3.out hb4)
    have HL4 := hide (HL3.out.below hb4)
    have hw4 : Below w.heap.size w w4 := hw3.trans (hb4.mono (by omega))
    have hz4' := hb4.size
    clear c0 c1 c2 c3 hb4 HRB H3 HY3 HL3 hw3 hout
    go_wp2_with fail
    have hz4 : w3.heap.size ≤ w4.heap.size := hz4'
    refine (HRO.out _).mono ?_
    rintro e w5 ⟨hb5, z, rfl, hz, hzst⟩
    have hz5 := hb5.size
    obtain ⟨zk, zt, zn, za, zl, zc, hzv⟩ : ∃ zk zt zn za zl zc, z.val = .agg #[.int .i64 zk, .string zt, .int .i64 zn, .slice za zl zc] := ⟨_, _, _, _, _, _, rfl⟩
    have HS := hide (fun W (hW : Below w5.heap.size w5 W) => same_stands (w := W) HST.out hzst ((HL4.out.below hb5).below hW) (hz.below hW))
    rw [hyvH.out, hzv] at HS
    rw [hzv]
    have H5 := hide (still H4.out hb5)
    have HY5 := hide (still HY4.out hb5)
    have hw5 : Below w.heap.size w w5 := hw4.trans (hb5.mono (by omega))
    clear hz hzst hzv hb5 HRO hyvH HST HL4 H4 HY4 hw4
    have HBG5 : Hid (∀ o, Calls Tryd.prog 12 #[] (w5.alloc o) fun e w' => e = .returned (.bool true) ∧ Below (w5.alloc o).heap.size (w5.alloc o) w') := fun o => HBG.out _ (hw5.alloc (by omega) o)
    go_wp2_with fail
    refine (HBG5.out _).mono ?_
    rintro e w6 ⟨rfl, hb6⟩
    have h56 := below1 hb6
    have hz6 : w5.heap.size + 1 ≤ w6.heap.size := by have := hb6.size; simpa using this
    have h6 := still H5.out h56
    have HZ6 := hide (still (heap_alloc_new w5 _) hb6)
    have HY6 := hide (still HY5.out h56)
    have hw6 : Below w.heap.size w w6 := hw5.trans (h56.mono (by omega))
    clear HBG HBG5 hb6
    obtain ⟨c0, c1, c2, c3, f0, f1, f2, f3⟩ := four_of h6
    clear f0 f1 f2 f3 h6
    go_wp2_with fail
    refine (HCX.out _ hw6).mono ?_
    rintro e w7 ⟨rfl, hb7⟩
    have h57 := h56.trans (hb7.mono (by omega))
    have hy7 := still HY6.out hb7
    have hz7 := still HZ6.out hb7
    have hw7 : Below w.heap.size w w7 := hw6.trans (hb7.mono (by omega))
    have HS7 := hide (HS.out w7 h57)
    clear c0 c1 c2 c3 HCX HS HY6 HZ6 hb7 h57
    obtain ⟨c0, c1, c2, c3, f0, f1, f2, f3⟩ := four_of hy7
    obtain ⟨d0, d1, d2, d3, g0, g1, g2, g3⟩ := four_of hz7
    clear f0 f1 f2 f3 g0 g1 g2 g3 hy7 hz7
    go_wp2_with fail
    refine HS7.out.mono ?_
    rintro e w8 ⟨rfl, hb8⟩
    have hsz := hw7.size
    clear c0 c1 c2 c3 d0 d1 d2 d3
    go_wp2_with fail
    go_ret
    exact ⟨rfl, hw7.trans (hb8.mono (by omega))⟩
  · have hCb : (C == 0) = false := by rw [beq_eq_false_iff_ne]; exact hC
    have hT := hout hC
    subst hT
    have H4 := H3
    have HY4 := HY3
    have HL4 := HL3
    clear c0 c1 c2 c3 HRB H3 HY3 HL3 hout hC
    go_wp2_with fail
    have w4 := w3
    have hz4 : w3.heap.size ≤ w3.heap.size := Nat.le_refl _
    refine (HRO.out _).mono ?_
    rintro e w5 ⟨hb5, z, rfl, hz, hzst⟩
    have hz5 := hb5.size
    obtain ⟨zk, zt, zn, za, zl, zc, hzv⟩ : ∃ zk zt zn za zl zc, z.val = .agg #[.int .i64 zk, .string zt, .int .i64 zn, .slice za zl zc] := ⟨_, _, _, _, _, _, rfl⟩
    have HS := hide (fun W (hW : Below w5.heap.size w5 W) => same_stands (w := W) HST.out hzst ((HL4.out.below hb5).below hW) (hz.below hW))
    rw [hyvH.out, hzv] at HS
    rw [hzv]
    have H5 := hide (still H4.out hb5)
    have HY5 := hide (still HY4.out hb5)
    have hw5 : Below w.heap.size w w5 := hw3.trans (hb5.mono (by omega))
    clear hz hzst hzv hb5 HRO hyvH HST HL4 H4 HY4 hw3
    have HBG5 : Hid (∀ o, Calls Tryd.prog 12 #[] (w5.alloc o) fun e w' => e = .returned (.bool true) ∧ Below (w5.alloc o).heap.size (w5.alloc o) w') := fun o => HBG.out _ (hw5.alloc (by omega) o)
    go_wp2_with fail
    refine (HBG5.out _).mono ?_
    rintro e w6 ⟨rfl, hb6⟩
    have h56 := below1 hb6
    have hz6 : w5.heap.size + 1 ≤ w6.heap.size := by have := hb6.size; simpa using this
    have h6 := still H5.out h56
    have HZ6 := hide (still (heap_alloc_new w5 _) hb6)
    have HY6 := hide (still HY5.out h56)
    have hw6 : Below w.heap.size w w6 := hw5.trans (h56.mono (by omega))
    clear HBG HBG5 hb6
    obtain ⟨c0, c1, c2, c3, f0, f1, f2, f3⟩ := four_of h6
    clear f0 f1 f2 f3 h6
    go_wp2_with fail
    refine (HCX.out _ hw6).mono ?_
    rintro e w7 ⟨rfl, hb7⟩
    have h57 := h56.trans (hb7.mono (by omega))
    have hy7 := still HY6.out hb7
    have hz7 := still HZ6.out hb7
    have hw7 : Below w.heap.size w w7 := hw6.trans (hb7.mono (by omega))
    have HS7 := hide (HS.out w7 h57)
    clear c0 c1 c2 c3 HCX HS HY6 HZ6 hb7 h57
    obtain ⟨c0, c1, c2, c3, f0, f1, f2, f3⟩ := four_of hy7
    obtain ⟨d0, d1, d2, d3, g0, g1, g2, g3⟩ := four_of hz7
    clear f0 f1 f2 f3 g0 g1 g2 g3 hy7 hz7
    go_wp2_with fail
    refine HS7.out.mono ?_
    rintro e w8 ⟨rfl, hb8⟩
    have hsz := hw7.size
    clear c0 c1 c2 c3 d0 d1 d2 d3
    go_wp2_with fail
    go_ret
    exact ⟨rfl, hw7.trans (hb8.mono (by omega))⟩
end Go.Proofs.YtolpmaapdkhigaaDoor
