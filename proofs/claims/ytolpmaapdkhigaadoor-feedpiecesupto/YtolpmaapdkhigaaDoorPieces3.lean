/- WALK of FeedPieces: the last way. -/
import Derived.Test.YtolpmaapdkhigaaDoorPieces
namespace Go.Proofs.YtolpmaapdkhigaaDoor
open Go.RowKit

set_option maxRecDepth 100000 in
set_option maxHeartbeats 2000000 in
/-- no piece but the last one has an error -/
theorem pieces_three (s : ByteArray) (c m : Nat) (w : World) (hs : s.size ≤ 1048576) (hcm : c + m ≤ s.size) (La Lb Lc : List (List (List UInt8))) (x y z : List UInt8) (h : Nat)
    (hA : pFeedR (s.data.toList.take c) = (La, x, 0)) (hB : pFeedR (x ++ (s.data.toList.drop c).take m) = (Lb, y, 0)) (hC : pFeedR (y ++ s.data.toList.drop (c + m)) = (Lc, z, h)) :
    Calls Tryd.prog 5 #[.string s, .int .i64 c, .int .i64 m] w fun e w' => e = .returned (.bool true) ∧ Below w.heap.size w w' := by
  have hall : pFeedR ((⟨#[]⟩ : ByteArray).data.toList ++ s.data.toList) = (La ++ (Lb ++ Lc), z, h) := by
    have h1 := (pFeedR_app (s.data.toList.take c) ((s.data.toList.drop c).take m ++ s.data.toList.drop (c + m))).1 (by rw [hA])
    have h2 := (pFeedR_app (x ++ (s.data.toList.drop c).take m) (s.data.toList.drop (c + m))).1 (by rw [hB])
    rw [drop_take_append, hA] at h1
    simp only at h1
    rw [List.append_assoc, hB] at h2
    simp only at h2
    rw [hC] at h2
    rw [h2] at h1
    exact h1
  have hA2 : pFeedR ((⟨#[]⟩ : ByteArray).data.toList ++ (⟨(s.data.toList.take c).toArray⟩ : ByteArray).data.toList) = (La, x, 0) := by rw [toList_mk]; exact hA
  have hB2 : pFeedR ((⟨x.toArray⟩ : ByteArray).data.toList ++ (⟨((s.data.toList.drop c).take m).toArray⟩ : ByteArray).data.toList) = (Lb, y, 0) := by rw [toList_mk, toList_mk]; exact hB
  have hC2 : pFeedR ((⟨y.toArray⟩ : ByteArray).data.toList ++ (⟨(s.data.toList.drop (c + m)).toArray⟩ : ByteArray).data.toList) = (Lc, z, h) := by rw [toList_mk, toList_mk]; exact hC
  have hxl : x.length ≤ c := by have h1 := pFeedR_left_len (s.data.toList.take c); rw [hA] at h1; simp only [List.length_take, size_list] at h1; omega
  have hLa := pFeedR_len (s.data.toList.take c)
  rw [hA] at hLa
  simp only [List.length_take, size_list] at hLa
  have hLb := pFeedR_len (x ++ (s.data.toList.drop c).take m)
  rw [hB] at hLb
  simp only [List.length_append, List.length_take, List.length_drop, size_list] at hLb
  have hyl : y.length ≤ x.length + m := by have h1 := pFeedR_left_len (x ++ (s.data.toList.drop c).take m); rw [hB] at h1; simp only [List.length_append, List.length_take, List.length_drop, size_list] at h1; omega
  have hLc := pFeedR_len (y ++ s.data.toList.drop (c + m))
  rw [hC] at hLc
  simp only [List.length_append, List.length_drop, size_list] at hLc
  have hlen2 : ∀ z ∈ La ++ (Lb ++ Lc), z.length ≤ 1000000000 := fun z hz => by
    rcases List.mem_append.1 hz with hz | hz
    · have h1 := pFeedR_each (s.data.toList.take c) z (by rw [hA]; exact hz); omega
    · rcases List.mem_append.1 hz with hz | hz
      · have h1 := pFeedR_each (x ++ (s.data.toList.drop c).take m) z (by rw [hB]; exact hz); omega
      · have h1 := pFeedR_each (y ++ s.data.toList.drop (c + m)) z (by rw [hC]; exact hz); omega
  have HP := hide hall
  have HA := hide hA2
  have HB := hide hB2
  have HC0 := hide hC2
  have HS := hide (empty_add s hs)
  have HS2 : Hid ((⟨#[]⟩ : ByteArray).size + (⟨(s.data.toList.take c).toArray⟩ : ByteArray).size ≤ 33554432) := hide (empty_add _ (by rw [size_mk, List.length_take, size_list]; omega))
  have HS3 : Hid ((⟨x.toArray⟩ : ByteArray).size + (⟨((s.data.toList.drop c).take m).toArray⟩ : ByteArray).size ≤ 33554432) := by
    show _ + _ ≤ _
    rw [size_mk, size_mk, List.length_take, List.length_drop, size_list]
    omega
  have HS4 : Hid ((⟨y.toArray⟩ : ByteArray).size + (⟨(s.data.toList.drop (c + m)).toArray⟩ : ByteArray).size ≤ 33554432) := by
    show _ + _ ≤ _
    rw [size_mk, size_mk, List.length_drop, size_list]
    omega
  have HL2 := hide hlen2
  have hct := cut_to s c (by omega)
  have hcm2 := cut_mid s c m hcm
  have hcf := cut_from s c m hcm
  clear hall hA hB hC hA2 hB2 hC2 hlen2
  generalize ByteArray.mk (s.data.toList.take c).toArray = sA at *
  generalize ByteArray.mk ((s.data.toList.drop c).take m).toArray = sB at *
  generalize ByteArray.mk (s.data.toList.drop (c + m)).toArray = sC at *
  go_enter Tryd.func5, Tryd.ntmps5
  go_wp2_with fail
  refine (feed_at _ _ (La ++ (Lb ++ Lc)) z h _ HS.out HP.out).mono ?_
  rintro e w1 ⟨V, rfl, hC, hb1⟩
  have HC := hide hC
  have HB1 := hide hb1
  clear hC hb1
  go_wp2_with (go_at_call 16; refine (feedBegun_any _).mono ?_; rintro e w2 ⟨rfl, hb2⟩)
  have HB2 := hide hb2
  clear hb2
  refine (feed_at _ _ La x 0 _ HS2.out HA.out).mono ?_
  rintro e w3 ⟨V3, rfl, hC3, hb3⟩
  have HC3 := hide hC3
  have HB3 := hide hb3
  clear hC3 hb3
  go_wp2_with fail
  refine (feed_at _ _ Lb y 0 _ HS3.out HB.out).mono ?_
  rintro e w4 ⟨V4, rfl, hC4, hb4⟩
  have hw4 : Below w.heap.size w w4 := HB1.out.trans ((HB2.out.trans ((HB3.out.trans (hb4.mono HB3.out.size)).mono HB2.out.size)).mono HB1.out.size)
  have hV : CmdsAt w4 V (La ++ (Lb ++ Lc)) := ((HC.out.at_.kept HB2.out).kept HB3.out).kept hb4
  have hC3' : Cmds2 w2.heap.size 0 w4 V3 La := HC3.out.two.kept hb4
  have hC4' : Cmds2 w3.heap.size 0 w4 V4 Lb := hC4.two
  have hE := Cmds2.empty w4.heap.size w4 (Nat.le_refl _)
  have hkE : Below w4.heap.size w4 (w4.alloc (.cells #[] 42)) := (Below.refl _ w4).alloc (Nat.le_refl _) _
  have hC3E := hC3'.kept hkE
  have hC4E := hC4'.kept hkE
  obtain ⟨a3, c3, rfl⟩ := hC3'.shape
  obtain ⟨a4, c4, rfl⟩ := hC4'.shape
  have HW4 := hide hw4
  have HV := hide hV
  have HC4 := hide hC4'
  clear hw4 hV hC4' hC3' hC4 hC4E hb4 HC HB1 HB2 HB3 HC3
  go_wp2_with (at_builtin; refine wpList_append_cmds rfl _ _ rfl w4.heap.size w2.heap.size _ _ [] La rfl rfl hE hC3E (by simp; omega) (by simp) ?_)
  intro A5 w5 hA5 hb5
  have hk5 : Below w4.heap.size w4 w5 := hkE.trans hb5
  have hC45 : Cmds2 w3.heap.size 0 w5 (.slice a4 Lb.length c4) Lb := HC4.out.kept hk5
  obtain ⟨a5, c5, rfl⟩ := hA5.shape
  have hz5 : w4.heap.size ≤ w5.heap.size := hk5.size
  clear hE hC3E hkE hb5
  go_wp2_with (at_builtin; refine wpList_append_cmds rfl _ _ rfl w4.heap.size w3.heap.size _ _ La Lb rfl rfl hA5 hC45 (by omega) hz5 ?_)
  intro A6 w6 hA6 hb6
  have hk6 : Below w4.heap.size w4 w6 := hk5.trans hb6
  obtain ⟨a6, c6, rfl⟩ := hA6.shape
  have HA6 := hide hA6
  have HK6 := hide hk6
  clear hA6 hk6 hA5 hC45 hb6 hk5
  go_wp2_with fail
  refine (feed_at _ _ Lc z h _ HS4.out HC0.out).mono ?_
  rintro e w8 ⟨V8, rfl, hC8, hb8⟩
  have hz6 : w4.heap.size ≤ w6.heap.size := HK6.out.size
  have hk8 : Below w4.heap.size w4 w8 := HK6.out.trans (hb8.mono hz6)
  have hA8 : Cmds2 w4.heap.size 0 w8 (.slice a6 (La.length + Lb.length) c6) (La ++ Lb) := by rw [← List.length_append]; exact HA6.out.kept hb8
  have hC8' := hC8.two
  obtain ⟨a8, c8, rfl⟩ := hC8'.shape
  have HK8 := hide hk8
  have HA8 := hide hA8
  have HC8 := hide hC8'
  have hz8 : w4.heap.size ≤ w8.heap.size := hk8.size
  clear hk8 hA8 hC8' hC8 hb8 HA6
  go_wp2_with (at_builtin; refine wpList_append_cmds_guarded (by rfl) (.tmp 113) (.tmp 114) (by rfl) w4.heap.size w6.heap.size (.slice a6 (La.length + Lb.length) c6) (.slice a8 Lc.length c8) (La ++ Lb) Lc (by rfl) (by rfl) HA8.out HC8.out (by rw [List.length_append]; omega) hz8 ?_)
  intro A9 w9 hA9 hb9
  have hk9 : Below w4.heap.size w4 w9 := HK8.out.trans hb9
  have hsame := sameCmds_any A9 V (La ++ (Lb ++ Lc)) (La ++ (Lb ++ Lc)) w9 hA9.at_ (HV.out.kept hk9) (by simp only [List.length_append]; omega) HL2.out
  have hd : decide (La ++ (Lb ++ Lc) = La ++ (Lb ++ Lc)) = true := by simp
  rw [hd] at hsame
  have HSAME := hide hsame
  have HW9 : Hid (Below w.heap.size w w9) := HW4.out.trans (hk9.mono HW4.out.size)
  clear hsame hA9 hb9 hk9 hd
  go_wp2_with (go_at_call 17; refine HSAME.out.mono ?_; rintro e w10 ⟨rfl, m10, rfl⟩)
  go_ret
  exact ⟨rfl, HW9.out.trans ⟨rfl, rfl, rfl, Nat.le_refl _, fun _ _ => rfl⟩⟩
end Go.Proofs.YtolpmaapdkhigaaDoor
