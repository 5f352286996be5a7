/- WALK of FeedPieces. -/
import Derived.Test.YtolpmaapdkhigaaDoorAppends
import Derived.Test.YtolpmaapdkhigaaDoorPlain2
namespace Go.Proofs.YtolpmaapdkhigaaDoor
open Go.RowKit

theorem feed_at (rest s : ByteArray) (L : List (List (List UInt8))) (left : List UInt8) (code : Nat) (w : World) (hs : rest.size + s.size ≤ 33554432) (hx : pFeedR (rest.data.toList ++ s.data.toList) = (L, left, code)) :
    Calls Tryd.prog 15 #[.string rest, .string s] w fun e w' => ∃ V, e = .returned (.tuple #[V, .string ⟨left.toArray⟩, .int .i64 code]) ∧ Cmds w.heap.size w' V L ∧ Below w.heap.size w w' := by
  have h := feed_any rest s w hs
  rw [hx] at h
  exact h

theorem pFeedR_left_len (l : List UInt8) : (pFeedR l).2.1.length ≤ l.length := by
  unfold pFeedR
  split
  · exact (pFeed_suffix l).length_le
  · simp
theorem pFeedR_len (l : List UInt8) : (pFeedR l).1.length ≤ l.length := by
  unfold pFeedR
  split <;> exact pFeed_len l
theorem pFeed_each : ∀ (f : Nat) (l : List UInt8), ∀ c ∈ (pFeedF f l).1, c.length ≤ 12 := by
  intro f
  induction f with
  | zero => intro l c hc; simp [pFeedF] at hc
  | succ f ih =>
    intro l c hc
    cases l with
    | nil => simp [pFeedF] at hc
    | cons d l =>
      cases h : pCommand (d :: l) with
      | error e => rw [pFeedF_err (by simp) h] at hc; simp at hc
      | ok p =>
        obtain ⟨ws, r⟩ := p
        rw [pFeedF_ok (by simp) h] at hc
        rcases List.mem_cons.1 hc with rfl | hc
        · exact (pCommand_suffix h).2.2.1
        · exact ih r c hc
theorem pFeedR_each (l : List UInt8) : ∀ c ∈ (pFeedR l).1, c.length ≤ 12 := by
  unfold pFeedR
  split <;> exact pFeed_each _ _

theorem empty_add (s : ByteArray) (h : s.size ≤ 1048576) : (⟨#[]⟩ : ByteArray).size + s.size ≤ 33554432 := by
  have : (⟨#[]⟩ : ByteArray).size = 0 := rfl
  omega

set_option maxRecDepth 100000 in
set_option maxHeartbeats 2000000 in
theorem pieces_out (s : ByteArray) (cut more : Int) (w : World) (hs : s.size ≤ 1048576) (hc2 : cut ≤ 9223372036854775807)
    (h : cut < 0 ∨ more < 0 ∨ (s.size : Int) < cut ∨ (s.size : Int) - cut < more) :
    Calls Tryd.prog 5 #[.string s, .int .i64 cut, .int .i64 more] w fun e w' => e = .returned (.bool true) ∧ Below w.heap.size w w' := by
  obtain ⟨⟨L, left, code⟩, hP⟩ : ∃ x, pFeedR ((⟨#[]⟩ : ByteArray).data.toList ++ s.data.toList) = x := ⟨_, rfl⟩
  have HP := hide hP
  have HS := hide (empty_add s hs)
  clear hP
  by_cases h1 : cut < 0
  · clear h
    go_enter Tryd.func5, Tryd.ntmps5
    go_wp2_with (first | (go_at_call 15; refine (feed_at _ _ L left code _ HS.out HP.out).mono ?_; rintro e w1 ⟨V, rfl, hC, hb1⟩) | (go_at_call 16; refine (feedBegun_any _).mono ?_; rintro e w2 ⟨rfl, hb2⟩))
    go_ret
    exact ⟨rfl, hb1.trans (hb2.mono hb1.size)⟩
  · by_cases h2 : more < 0
    · clear h
      go_enter Tryd.func5, Tryd.ntmps5
      go_wp2_with (first | (go_at_call 15; refine (feed_at _ _ L left code _ HS.out HP.out).mono ?_; rintro e w1 ⟨V, rfl, hC, hb1⟩) | (go_at_call 16; refine (feedBegun_any _).mono ?_; rintro e w2 ⟨rfl, hb2⟩))
      go_ret
      exact ⟨rfl, hb1.trans (hb2.mono hb1.size)⟩
    · by_cases h3 : (s.size : Int) < cut
      · clear h
        go_enter Tryd.func5, Tryd.ntmps5
        go_wp2_with (first | (go_at_call 15; refine (feed_at _ _ L left code _ HS.out HP.out).mono ?_; rintro e w1 ⟨V, rfl, hC, hb1⟩) | (go_at_call 16; refine (feedBegun_any _).mono ?_; rintro e w2 ⟨rfl, hb2⟩))
        go_ret
        exact ⟨rfl, hb1.trans (hb2.mono hb1.size)⟩
      · have h4 : (s.size : Int) - cut < more := by omega
        clear h
        go_enter Tryd.func5, Tryd.ntmps5
        go_wp2_with (first | (go_at_call 15; refine (feed_at _ _ L left code _ HS.out HP.out).mono ?_; rintro e w1 ⟨V, rfl, hC, hb1⟩) | (go_at_call 16; refine (feedBegun_any _).mono ?_; rintro e w2 ⟨rfl, hb2⟩))
        go_ret
        exact ⟨rfl, hb1.trans (hb2.mono hb1.size)⟩

/-- the cuts of a text, as the walk makes them -/
theorem cut_to (s : ByteArray) (c : Nat) (h : c ≤ s.size) (W : World) : (Instr.slice 9 (.string s) none (some (.int .i64 (c : Int))) none).run Tryd.prog W = .ok (.string ⟨(s.data.toList.take c).toArray⟩) W := by
  rw [run_slice_string_to_if (P := Tryd.prog) W 9 s .i64 _ Tryd.underlying9, if_pos (by omega), Int.toNat_natCast, extract_list, List.drop_zero, Nat.sub_zero]
theorem cut_mid (s : ByteArray) (c m : Nat) (h : c + m ≤ s.size) (W : World) : (Instr.slice 9 (.string s) (some (.int .i64 (c : Int))) (some (.int .i64 ((c : Int) + (m : Int)))) none).run Tryd.prog W = .ok (.string ⟨((s.data.toList.drop c).take m).toArray⟩) W := by
  rw [run_slice_string (P := Tryd.prog) W 9 s .i64 .i64 _ _ Tryd.underlying9 (by omega) (by omega) (by omega)]
  have e : ((c : Int) + (m : Int)).toNat = c + m := by omega
  rw [e, Int.toNat_natCast, extract_list, Nat.add_sub_cancel_left]
theorem cut_from (s : ByteArray) (c m : Nat) (h : c + m ≤ s.size) (W : World) : (Instr.slice 9 (.string s) (some (.int .i64 ((c : Int) + (m : Int)))) none none).run Tryd.prog W = .ok (.string ⟨(s.data.toList.drop (c + m)).toArray⟩) W := by
  rw [run_slice_string_from_if (P := Tryd.prog) W 9 s .i64 _ Tryd.underlying9, if_pos (by omega)]
  have e : ((c : Int) + (m : Int)).toNat = c + m := by omega
  rw [e, extract_list, List.take_of_length_le (by rw [List.length_drop, size_list]; exact Nat.le_refl _)]

set_option maxRecDepth 100000 in
set_option maxHeartbeats 2000000 in
/-- the first piece has an error -/
theorem pieces_one (s : ByteArray) (c m : Nat) (w : World) (hs : s.size ≤ 1048576) (hcm : c + m ≤ s.size) (La : List (List (List UInt8))) (x : List UInt8) (f : Nat) (hf : f ≠ 0)
    (hA : pFeedR (s.data.toList.take c) = (La, x, f)) :
    Calls Tryd.prog 5 #[.string s, .int .i64 c, .int .i64 m] w fun e w' => e = .returned (.bool true) ∧ Below w.heap.size w w' := by
  have hall : pFeedR ((⟨#[]⟩ : ByteArray).data.toList ++ s.data.toList) = (La, [], f) := by
    have h1 := (pFeedR_app (s.data.toList.take c) (s.data.toList.drop c)).2 (by rw [hA]; exact hf)
    rw [List.take_append_drop, hA] at h1
    exact h1
  have hA2 : pFeedR ((⟨#[]⟩ : ByteArray).data.toList ++ (⟨(s.data.toList.take c).toArray⟩ : ByteArray).data.toList) = (La, x, f) := by rw [toList_mk]; exact hA
  have hlenA : La.length ≤ 1000000000 := by have h1 := pFeedR_len (s.data.toList.take c); rw [hA] at h1; simp only [List.length_take, size_list] at h1; omega
  have hlen2 : ∀ y ∈ La, y.length ≤ 1000000000 := fun y hy => by have h1 := pFeedR_each (s.data.toList.take c) y (by rw [hA]; exact hy); omega
  have HP := hide hall
  have HA := hide hA2
  have HS := hide (empty_add s hs)
  have HS2 : Hid ((⟨#[]⟩ : ByteArray).size + (⟨(s.data.toList.take c).toArray⟩ : ByteArray).size ≤ 33554432) := hide (empty_add _ (by rw [size_mk, List.length_take, size_list]; omega))
  have HL1 := hide hlenA
  have HL2 := hide hlen2
  have hct := cut_to s c (by omega)
  have hfb : ((f : Int) != 0) = true := by rw [bne_iff_ne]; omega
  clear hall hA hA2 hlenA hlen2
  generalize ByteArray.mk (s.data.toList.take c).toArray = sA at *
  go_enter Tryd.func5, Tryd.ntmps5
  go_wp2_with fail
  refine (feed_at _ _ La [] f _ HS.out HP.out).mono ?_
  rintro e w1 ⟨V, rfl, hC, hb1⟩
  have HC := hide hC
  have HB1 := hide hb1
  clear hC hb1
  go_wp2_with (go_at_call 16; refine (feedBegun_any _).mono ?_; rintro e w2 ⟨rfl, hb2⟩)
  have HB2 := hide hb2
  clear hb2
  refine (feed_at _ _ La x f _ HS2.out HA.out).mono ?_
  rintro e w3 ⟨V3, rfl, hC3, hb3⟩
  have HC3 := hide hC3
  have HB3 := hide hb3
  clear hC3 hb3
  go_wp2_with fail
  have hV1 : CmdsAt w3 V La := (HC.out.at_.kept HB2.out).kept HB3.out
  have hd : decide (La = La) = true := by simp
  have hsame := sameCmds_any V3 V La La w3 HC3.out.at_ hV1 HL1.out HL2.out
  rw [hd] at hsame
  refine hsame.mono ?_
  rintro e w4 ⟨rfl, m4, rfl⟩
  go_wp2
  go_ret
  exact ⟨rfl, (HB1.out.trans ((HB2.out.trans (HB3.out.mono HB2.out.size)).mono HB1.out.size)).trans ⟨rfl, rfl, rfl, Nat.le_refl _, fun _ _ => rfl⟩⟩

theorem drop_take_append (l : List UInt8) (c m : Nat) : l.take c ++ ((l.drop c).take m ++ l.drop (c + m)) = l := by
  rw [← List.drop_drop, List.take_append_drop, List.take_append_drop]

set_option maxRecDepth 100000 in
set_option maxHeartbeats 2000000 in
/-- the second piece has an error -/
theorem pieces_two (s : ByteArray) (c m : Nat) (w : World) (hs : s.size ≤ 1048576) (hcm : c + m ≤ s.size) (La Lb : List (List (List UInt8))) (x y : List UInt8) (g : Nat) (hg : g ≠ 0)
    (hA : pFeedR (s.data.toList.take c) = (La, x, 0)) (hB : pFeedR (x ++ (s.data.toList.drop c).take m) = (Lb, y, g)) :
    Calls Tryd.prog 5 #[.string s, .int .i64 c, .int .i64 m] w fun e w' => e = .returned (.bool true) ∧ Below w.heap.size w w' := by
  have hall : pFeedR ((⟨#[]⟩ : ByteArray).data.toList ++ s.data.toList) = (La ++ Lb, [], g) := by
    have h1 := (pFeedR_app (s.data.toList.take c) ((s.data.toList.drop c).take m ++ s.data.toList.drop (c + m))).1 (by rw [hA])
    have h2 := (pFeedR_app (x ++ (s.data.toList.drop c).take m) (s.data.toList.drop (c + m))).2 (by rw [hB]; exact hg)
    rw [drop_take_append, hA] at h1
    simp only at h1
    rw [List.append_assoc, hB] at h2
    rw [h2] at h1
    exact h1
  have hA2 : pFeedR ((⟨#[]⟩ : ByteArray).data.toList ++ (⟨(s.data.toList.take c).toArray⟩ : ByteArray).data.toList) = (La, x, 0) := by rw [toList_mk]; exact hA
  have hB2 : pFeedR ((⟨x.toArray⟩ : ByteArray).data.toList ++ (⟨((s.data.toList.drop c).take m).toArray⟩ : ByteArray).data.toList) = (Lb, y, g) := by rw [toList_mk, toList_mk]; exact hB
  have hxl : x.length ≤ c := by have h1 := pFeedR_left_len (s.data.toList.take c); rw [hA] at h1; simp only [List.length_take, size_list] at h1; omega
  have hLa := pFeedR_len (s.data.toList.take c)
  rw [hA] at hLa
  simp only [List.length_take, size_list] at hLa
  have hLb := pFeedR_len (x ++ (s.data.toList.drop c).take m)
  rw [hB] at hLb
  simp only [List.length_append, List.length_take, List.length_drop, size_list] at hLb
  have hlen2 : ∀ z ∈ La ++ Lb, z.length ≤ 1000000000 := fun z hz => by
    rcases List.mem_append.1 hz with hz | hz
    · have h1 := pFeedR_each (s.data.toList.take c) z (by rw [hA]; exact hz); omega
    · have h1 := pFeedR_each (x ++ (s.data.toList.drop c).take m) z (by rw [hB]; exact hz); omega
  have HP := hide hall
  have HA := hide hA2
  have HB := hide hB2
  have HS := hide (empty_add s hs)
  have HS2 : Hid ((⟨#[]⟩ : ByteArray).size + (⟨(s.data.toList.take c).toArray⟩ : ByteArray).size ≤ 33554432) := hide (empty_add _ (by rw [size_mk, List.length_take, size_list]; omega))
  have HS3 : Hid ((⟨x.toArray⟩ : ByteArray).size + (⟨((s.data.toList.drop c).take m).toArray⟩ : ByteArray).size ≤ 33554432) := by
    show _ + _ ≤ _
    rw [size_mk, size_mk, List.length_take, List.length_drop, size_list]
    omega
  have HL2 := hide hlen2
  have hct := cut_to s c (by omega)
  have hcm2 := cut_mid s c m hcm
  have hgb : ((g : Int) != 0) = true := by rw [bne_iff_ne]; omega
  clear hall hA hB hA2 hB2 hlen2
  generalize ByteArray.mk (s.data.toList.take c).toArray = sA at *
  generalize ByteArray.mk ((s.data.toList.drop c).take m).toArray = sB at *
  go_enter Tryd.func5, Tryd.ntmps5
  go_wp2_with fail
  refine (feed_at _ _ (La ++ Lb) [] g _ HS.out HP.out).mono ?_
  rintro e w1 ⟨V, rfl, hC, hb1⟩
  have HC := hide hC
  have HB1 := hide hb1
  clear hC hb1
  go_wp2_with (go_at_call 16; refine (feedBegun_any _).mono ?_; rintro e w2 ⟨rfl, hb2⟩)
  have HB2 := hide hb2
  clear hb2
  refine (feed_at _ _ La x 0 _ HS2.out HA.out).mono ?_
  rintro e w3 ⟨V3, rfl, hC3, hb3⟩
  have HC3 := hide hC3
  have HB3 := hide hb3
  clear hC3 hb3
  go_wp2_with fail
  refine (feed_at _ _ Lb y g _ HS3.out HB.out).mono ?_
  rintro e w4 ⟨V4, rfl, hC4, hb4⟩
  have hw4 : Below w.heap.size w w4 := HB1.out.trans ((HB2.out.trans ((HB3.out.trans (hb4.mono HB3.out.size)).mono HB2.out.size)).mono HB1.out.size)
  have hV : CmdsAt w4 V (La ++ Lb) := ((HC.out.at_.kept HB2.out).kept HB3.out).kept hb4
  have hC3' : Cmds2 w2.heap.size 0 w4 V3 La := HC3.out.two.kept hb4
  have hC4' : Cmds2 w3.heap.size 0 w4 V4 Lb := hC4.two
  have hE := Cmds2.empty w4.heap.size w4 (Nat.le_refl _)
  have hkE : Below w4.heap.size w4 (w4.alloc (.cells #[] 42)) := (Below.refl _ w4).alloc (Nat.le_refl _) _
  have hC3E := hC3'.kept hkE
  have hC4E := hC4'.kept hkE
  obtain ⟨a3, c3, rfl⟩ := hC3'.shape
  obtain ⟨a4, c4, rfl⟩ := hC4'.shape
  have HW4 := hide hw4
  have HV := hide hV
  have HC4 := hide hC4'
  clear hw4 hV hC4' hC3' hC4 hC4E hb4 HC HB1 HB2 HB3 HC3
  go_wp2_with (at_builtin; refine wpList_append_cmds rfl _ _ rfl w4.heap.size w2.heap.size _ _ [] La rfl rfl hE hC3E (by simp; omega) (by simp) ?_)
  intro A5 w5 hA5 hb5
  have hk5 : Below w4.heap.size w4 w5 := hkE.trans hb5
  have hC45 : Cmds2 w3.heap.size 0 w5 (.slice a4 Lb.length c4) Lb := HC4.out.kept hk5
  obtain ⟨a5, c5, rfl⟩ := hA5.shape
  have hz5 : w4.heap.size ≤ w5.heap.size := hk5.size
  clear hE hC3E hkE hb5
  go_wp2_with (at_builtin; refine wpList_append_cmds rfl _ _ rfl w4.heap.size w3.heap.size _ _ La Lb rfl rfl hA5 hC45 (by omega) hz5 ?_)
  intro A6 w6 hA6 hb6
  have hk6 : Below w4.heap.size w4 w6 := hk5.trans hb6
  obtain ⟨a6, c6, rfl⟩ := hA6.shape
  have HA6 := hide hA6
  have HK6 := hide hk6
  clear hA6 hk6 hA5 hC45 hb6 hk5
  go_wp2_with fail
  have hsame := sameCmds_any (.slice a6 (La ++ Lb).length c6) V (La ++ Lb) (La ++ Lb) w6 HA6.out.at_ (HV.out.kept HK6.out) (by rw [List.length_append]; omega) HL2.out
  have hd : decide (La ++ Lb = La ++ Lb) = true := by simp
  rw [hd] at hsame
  rw [← List.length_append]
  refine hsame.mono ?_
  rintro e w7 ⟨rfl, m7, rfl⟩
  go_wp2
  go_ret
  exact ⟨rfl, (HW4.out.trans (HK6.out.mono HW4.out.size)).trans ⟨rfl, rfl, rfl, Nat.le_refl _, fun _ _ => rfl⟩⟩
end Go.Proofs.YtolpmaapdkhigaaDoor
