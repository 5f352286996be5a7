/- WALKS of SpaceTells: way ge0. -/
import Derived.Test.YtcidoodaiimhfaaGreatYTw
import Derived.BigRegion
import Derived.Handy
namespace Go.Proofs.YtcidoodaiimhfaaGreat
open Go.RowKit

set_option maxRecDepth 100000 in
set_option maxHeartbeats 4000000 in
theorem tl_ge0_D0 (a : Option Addr) (c : Nat) (s : List Ent) (now : Int) (key : ByteArray) (x : Itm) (til : Int) (p : ByteArray) (w : World) (p1 : Option Addr) (q1 : Nat) (p2 : Option Addr) (q2 : Nat) (p3 : Option Addr) (q3 : Nat) (o : Itm) (CS : Int) (d : Ent) (Q : List Ent) (EG : Int) (hs : SpaceAt w a s) (hx : ItemIs w (.agg #[.int .i64 x.k, .string x.t, .slice p1 x.l.length q1, .slice p2 x.p.length q2, .slice p3 x.s.length q3]) x)
    (HG : CGx0 a c s now key o)
    (HP : CPx1 a c s now key x til p1 q1 p2 q2 p3 q3)
    (HU : CUx0 a c s now key d)
    (HK : CKx0 a c s now p EG)
    (HS : CSx0 a c s now Q)
    (HCA : CCAx0 a c s now key)
    (HCB : CCBx0 a c s now)
    (HN : CNx1 x)
    (HCI : CCIx0 x p1 q1 p2 q2 p3 q3)
    (HL : CLx0 a c s now key d)
    (HCG : CCGx0 p EG)
    (HSO : CSOx0 a c s now Q)
    (HBG : CBGx0 )
    (HCK : CCKx0 a c s CS)
    (HCS : CCSx0 a c s CS)
    (HOO : COOx0 o d)
    (HSI1 : CSI1x1 )
    (HTT : CTTx0 )
    (HSI2 : CSI2x0 Q)
    (hsn : s.length ≤ 16) (hqn : Q.length ≤ 16) (hg1 : (EG == 0) = false) (hdk : (d.item.k == 0) = false) (ht1 : (til != 0) = true) (ht2 : decide (til ≤ now) = true) :
    Calls Tryz.prog 3 #[.slice a s.length c, .int .i64 now, .string key, .agg #[.int .i64 x.k, .string x.t, .slice p1 x.l.length q1, .slice p2 x.p.length q2, .slice p3 x.s.length q3], .int .i64 til, .string p] w fun e w' => e = .returned (.bool true) ∧ Below w.heap.size w w' := by
  obtain ⟨V0, hV0, AV0, BX⟩ := newbox w (.cells #[.int .i64 x.k, .string x.t, .slice p1 x.l.length q1, .slice p2 x.p.length q2, .slice p3 x.s.length q3] 28)
  go_enter Tryz.func3, Tryz.ntmps3
  go_wp2_with fail
  refine (HG V0 (hs.below AV0)).mono ?_
  rintro e w1 ⟨⟨b1, e1, b2, e2, b3, e3, rfl, IO⟩, bw1⟩
  clear hV0
  obtain ⟨V2, hV2, AV2, BO⟩ := newbox w1 (.cells #[.int .i64 o.k, .string o.t, .slice b1 o.l.length e1, .slice b2 o.p.length e2, .slice b3 o.s.length e3] 28)
  have xh := ((btY bw1 AV2).block _ (Array.getElem?_eq_some_iff.1 BX).1).trans BX
  have x0 : V2.cell? ⟨w.heap.size, 0, none⟩ = some (.int .i64 x.k) := by simp [World.cell?, xh]
  have x1 : V2.cell? ⟨w.heap.size, 1, none⟩ = some (.string x.t) := by simp [World.cell?, xh]
  have x2 : V2.cell? ⟨w.heap.size, 2, none⟩ = some (.slice p1 x.l.length q1) := by simp [World.cell?, xh]
  have x3 : V2.cell? ⟨w.heap.size, 3, none⟩ = some (.slice p2 x.p.length q2) := by simp [World.cell?, xh]
  have x4 : V2.cell? ⟨w.heap.size, 4, none⟩ = some (.slice p3 x.s.length q3) := by simp [World.cell?, xh]
  have cw1 := btY AV0 bw1
  have cV2 := btY cw1 AV2
  go_wp2_with fail
  refine (HP V2 (hs.below cV2) (hx.below cV2)).mono ?_
  rintro e w3 ⟨⟨ao, co, rfl⟩, bw3⟩
  clear hV2 xh x0 x1 x2 x3 x4
  have cw3 := btY cV2 bw3
  go_wp2_with fail
  refine (HU w3 (hs.below cw3)).mono ?_
  rintro e w4 ⟨rfl, bw4⟩
  have cw4 := btY cw3 bw4
  go_wp2_with fail
  refine (HK w4 (hs.below cw4)).mono ?_
  rintro e w5 ⟨⟨ak, ck, rfl⟩, bw5⟩
  have cw5 := btY cw4 bw5
  go_wp2_with fail
  refine (HS w5 (hs.below cw5)).mono ?_
  rintro e w6 ⟨⟨aq, cq, rfl, SQ⟩, bw6⟩
  have cw6 := btY cw5 bw6
  go_wp2_with fail
  refine (HCA w6 (hs.below cw6)).mono ?_
  rintro e w7 ⟨rfl, bw7⟩
  have cw7 := btY cw6 bw7
  go_wp2_with fail
  refine (HCB w7 (hs.below cw7)).mono ?_
  rintro e w8 ⟨rfl, bw8⟩
  have xh := ((btY (btY (btY (btY (btY (btY (btY bw1 AV2) bw3) bw4) bw5) bw6) bw7) bw8).block _ (Array.getElem?_eq_some_iff.1 BX).1).trans BX
  have x0 : w8.cell? ⟨w.heap.size, 0, none⟩ = some (.int .i64 x.k) := by simp [World.cell?, xh]
  have x1 : w8.cell? ⟨w.heap.size, 1, none⟩ = some (.string x.t) := by simp [World.cell?, xh]
  have x2 : w8.cell? ⟨w.heap.size, 2, none⟩ = some (.slice p1 x.l.length q1) := by simp [World.cell?, xh]
  have x3 : w8.cell? ⟨w.heap.size, 3, none⟩ = some (.slice p2 x.p.length q2) := by simp [World.cell?, xh]
  have x4 : w8.cell? ⟨w.heap.size, 4, none⟩ = some (.slice p3 x.s.length q3) := by simp [World.cell?, xh]
  go_wp2_with fail
  refine (HN p1 q1 p2 q2 p3 q3 w8).mono ?_
  rintro e w9 ⟨rfl, bw9⟩
  clear xh x0 x1 x2 x3 x4
  have xh := ((btY (btY (btY (btY (btY (btY (btY (btY bw1 AV2) bw3) bw4) bw5) bw6) bw7) bw8) bw9).block _ (Array.getElem?_eq_some_iff.1 BX).1).trans BX
  have x0 : w9.cell? ⟨w.heap.size, 0, none⟩ = some (.int .i64 x.k) := by simp [World.cell?, xh]
  have x1 : w9.cell? ⟨w.heap.size, 1, none⟩ = some (.string x.t) := by simp [World.cell?, xh]
  have x2 : w9.cell? ⟨w.heap.size, 2, none⟩ = some (.slice p1 x.l.length q1) := by simp [World.cell?, xh]
  have x3 : w9.cell? ⟨w.heap.size, 3, none⟩ = some (.slice p2 x.p.length q2) := by simp [World.cell?, xh]
  have x4 : w9.cell? ⟨w.heap.size, 4, none⟩ = some (.slice p3 x.s.length q3) := by simp [World.cell?, xh]
  have cw8 := btY cw7 bw8
  have cw9 := btY cw8 bw9
  go_wp2_with fail
  refine (HCI w9 (hx.below cw9)).mono ?_
  rintro e w10 ⟨rfl, bw10⟩
  clear xh x0 x1 x2 x3 x4
  go_wp2_with fail
  refine (HCG w10).mono ?_
  rintro e w11 ⟨rfl, bw11⟩
  obtain ⟨V12, hV12, AV12, BG⟩ := newbox w11 (.cells #[.int .i64 0, .string ⟨#[]⟩, .slice none 0 0, .slice none 0 0, .slice none 0 0] 28)
  have cw10 := btY cw9 bw10
  have cw11 := btY cw10 bw11
  go_wp2_with fail
  refine (HL w11 V12 AV12 (hs.below cw11)).mono ?_
  rintro e w13 ⟨⟨y1, z1, y2, z2, y3, z3, rfl, hid⟩, bw13⟩
  clear hV12
  obtain ⟨V14, hV14, AV14, BY⟩ := newbox w13 (.cells #[.string d.key, .int .i64 d.item.k, .string d.item.t, .slice y1 d.item.l.length z1, .slice y2 d.item.p.length z2, .slice y3 d.item.s.length z3, .int .i64 d.til] 45)
  have yc0 : V14.cell? ⟨w13.heap.size, 0, none⟩ = some (.string d.key) := by simp [World.cell?, BY]
  have yc1 : V14.cell? ⟨w13.heap.size, 1, none⟩ = some (.int .i64 d.item.k) := by simp [World.cell?, BY]
  have yc2 : V14.cell? ⟨w13.heap.size, 2, none⟩ = some (.string d.item.t) := by simp [World.cell?, BY]
  have yc3 : V14.cell? ⟨w13.heap.size, 3, none⟩ = some (.slice y1 d.item.l.length z1) := by simp [World.cell?, BY]
  have yc4 : V14.cell? ⟨w13.heap.size, 4, none⟩ = some (.slice y2 d.item.p.length z2) := by simp [World.cell?, BY]
  have yc5 : V14.cell? ⟨w13.heap.size, 5, none⟩ = some (.slice y3 d.item.s.length z3) := by simp [World.cell?, BY]
  have yc6 : V14.cell? ⟨w13.heap.size, 6, none⟩ = some (.int .i64 d.til) := by simp [World.cell?, BY]
  have gh := ((btY bw13 AV14).block _ (Array.getElem?_eq_some_iff.1 BG).1).trans BG
  have g0 : V14.cell? ⟨w11.heap.size, 0, none⟩ = some (.int .i64 0) := by simp [World.cell?, gh]
  have g1 : V14.cell? ⟨w11.heap.size, 1, none⟩ = some (.string ⟨#[]⟩) := by simp [World.cell?, gh]
  have g2 : V14.cell? ⟨w11.heap.size, 2, none⟩ = some (.slice none 0 0) := by simp [World.cell?, gh]
  have g3 : V14.cell? ⟨w11.heap.size, 3, none⟩ = some (.slice none 0 0) := by simp [World.cell?, gh]
  have g4 : V14.cell? ⟨w11.heap.size, 4, none⟩ = some (.slice none 0 0) := by simp [World.cell?, gh]
  have gf0 : V14.frozen? ⟨w11.heap.size, 0, none⟩ = false := by simp [World.frozen?, gh]
  have gf1 : V14.frozen? ⟨w11.heap.size, 1, none⟩ = false := by simp [World.frozen?, gh]
  have gf2 : V14.frozen? ⟨w11.heap.size, 2, none⟩ = false := by simp [World.frozen?, gh]
  have gf3 : V14.frozen? ⟨w11.heap.size, 3, none⟩ = false := by simp [World.frozen?, gh]
  have gf4 : V14.frozen? ⟨w11.heap.size, 4, none⟩ = false := by simp [World.frozen?, gh]
  have hne1 : ¬ w11.heap.size = w13.heap.size := by have := (Array.getElem?_eq_some_iff.1 ((bw13.block _ (Array.getElem?_eq_some_iff.1 BG).1).trans BG)).1; omega
  have hne2 : ¬ w13.heap.size = w11.heap.size := fun h => hne1 h.symm
  obtain ⟨W9, hW9⟩ : ∃ W', (((((V14.setCell ⟨w11.heap.size, 0, none⟩ (.int .i64 d.item.k)).setCell ⟨w11.heap.size, 1, none⟩ (.string d.item.t)).setCell ⟨w11.heap.size, 2, none⟩ (.slice y1 d.item.l.length z1)).setCell ⟨w11.heap.size, 3, none⟩ (.slice y2 d.item.p.length z2)).setCell ⟨w11.heap.size, 4, none⟩ (.slice y3 d.item.s.length z3)).drew = W' := ⟨_, rfl⟩
  have GN : W9.heap[w11.heap.size]? = some (.cells #[.int .i64 d.item.k, .string d.item.t, .slice y1 d.item.l.length z1, .slice y2 d.item.p.length z2, .slice y3 d.item.s.length z3] 28 (0, 0)) := by
    rw [← hW9]
    show (((((V14.setCell ⟨w11.heap.size, 0, none⟩ (.int .i64 d.item.k)).setCell ⟨w11.heap.size, 1, none⟩ (.string d.item.t)).setCell ⟨w11.heap.size, 2, none⟩ (.slice y1 d.item.l.length z1)).setCell ⟨w11.heap.size, 3, none⟩ (.slice y2 d.item.p.length z2)).setCell ⟨w11.heap.size, 4, none⟩ (.slice y3 d.item.s.length z3)).heap[w11.heap.size]? = _
    rw [(setCell_heapY (setCell_heapY (setCell_heapY (setCell_heapY (setCell_heapY gh 0 _) 1 _) 2 _) 3 _) 4 _)]; rfl
  have CN : Below w11.heap.size w11 W9 := hW9 ▸ ((((((btY (btY AV12 bw13) AV14).setCell (p := ⟨w11.heap.size, 0, none⟩) (Nat.le_refl _) _).setCell (p := ⟨w11.heap.size, 1, none⟩) (Nat.le_refl _) _).setCell (p := ⟨w11.heap.size, 2, none⟩) (Nat.le_refl _) _).setCell (p := ⟨w11.heap.size, 3, none⟩) (Nat.le_refl _) _).setCell (p := ⟨w11.heap.size, 4, none⟩) (Nat.le_refl _) _).drew
  have KN : Kept (one (w11.heap.size)) V14 W9 := hW9 ▸ ((((((Kept.refl (one (w11.heap.size)) V14).set1 0 _).set1 1 _).set1 2 _).set1 3 _).set1 4 _).drew
  have BY9 := (KN.block _ (Array.getElem?_eq_some_iff.1 BY).1 (by simp only [one]; omega)).trans BY
  have HW9 := hide hW9
  have HKN := hide KN
  have HCN := hide CN
  have HGN := hide GN
  have HBY9 := hide BY9
  clear hW9 KN CN GN BY9
  go_wp2_with fail
  go_big_region
  rw [HW9.out]
  have CN := HCN.out
  have GN := HGN.out
  have BY9 := HBY9.out
  clear yc0 yc1 yc2 yc3 yc4 yc5 yc6 gh g0 g1 g2 g3 g4 gf0 gf1 gf2 gf3 gf4 HW9 HKN HCN HGN HBY9 hne1 hne2 hV14
  have yd1 : W9.cell? ⟨w13.heap.size, 1, none⟩ = some (.int .i64 d.item.k) := by simp [World.cell?, BY9]
  have cW9N := btY cw11 CN
  go_wp2_with fail
  refine (HSO W9 (hs.below cW9N)).mono ?_
  rintro e w15 ⟨⟨ar, cr, rfl, ST⟩, bw15⟩
  clear yd1
  go_wp2_with fail
  refine (HBG w15).mono ?_
  rintro e w16 ⟨rfl, bw16⟩
  have cw15 := btY cW9N bw15
  have cw16 := btY cw15 bw16
  go_wp2_with fail
  refine (HCK w16 (hs.below cw16)).mono ?_
  rintro e w17 ⟨rfl, bw17⟩
  have cw17 := btY cw16 bw17
  go_wp2_with fail
  refine (HCS w17 (hs.below cw17)).mono ?_
  rintro e w18 ⟨rfl, bw18⟩
  have oh := ((btY (btY (btY (btY (btY (btY (btY (btY (btY (btY (btY (btY (btY bw3 bw4) bw5) bw6) bw7) bw8) bw9) bw10) bw11) CN) bw15) bw16) bw17) bw18).block _ (Array.getElem?_eq_some_iff.1 BO).1).trans BO
  have o0 : w18.cell? ⟨w1.heap.size, 0, none⟩ = some (.int .i64 o.k) := by simp [World.cell?, oh]
  have o1 : w18.cell? ⟨w1.heap.size, 1, none⟩ = some (.string o.t) := by simp [World.cell?, oh]
  have o2 : w18.cell? ⟨w1.heap.size, 2, none⟩ = some (.slice b1 o.l.length e1) := by simp [World.cell?, oh]
  have o3 : w18.cell? ⟨w1.heap.size, 3, none⟩ = some (.slice b2 o.p.length e2) := by simp [World.cell?, oh]
  have o4 : w18.cell? ⟨w1.heap.size, 4, none⟩ = some (.slice b3 o.s.length e3) := by simp [World.cell?, oh]
  have gh := ((btY (btY (btY bw15 bw16) bw17) bw18).block _ (Array.getElem?_eq_some_iff.1 GN).1).trans GN
  have g0 : w18.cell? ⟨w11.heap.size, 0, none⟩ = some (.int .i64 d.item.k) := by simp [World.cell?, gh]
  have g1 : w18.cell? ⟨w11.heap.size, 1, none⟩ = some (.string d.item.t) := by simp [World.cell?, gh]
  have g2 : w18.cell? ⟨w11.heap.size, 2, none⟩ = some (.slice y1 d.item.l.length z1) := by simp [World.cell?, gh]
  have g3 : w18.cell? ⟨w11.heap.size, 3, none⟩ = some (.slice y2 d.item.p.length z2) := by simp [World.cell?, gh]
  have g4 : w18.cell? ⟨w11.heap.size, 4, none⟩ = some (.slice y3 d.item.s.length z3) := by simp [World.cell?, gh]
  go_wp2_with fail
  refine (HOO _ _ w18 (IO.below (btY (btY (btY (btY (btY (btY (btY (btY (btY (btY (btY (btY (btY (btY AV2 bw3) bw4) bw5) bw6) bw7) bw8) bw9) bw10) bw11) CN) bw15) bw16) bw17) bw18)) (hid.below (btY (btY (btY (btY CN bw15) bw16) bw17) bw18))).mono ?_
  rintro e w19 ⟨rfl, bw19⟩
  clear oh o0 o1 o2 o3 o4 gh g0 g1 g2 g3 g4
  go_wp2_with fail
  refine (HSI1 ao co w19).mono ?_
  rintro e w20 ⟨rfl, bw20⟩
  go_wp2_with fail
  refine (HTT ak ck w20).mono ?_
  rintro e w21 ⟨rfl, bw21⟩
  go_wp2_with fail
  refine (HSI2 aq cq ar cr w21 (SQ.below (btY (btY (btY (btY (btY (btY (btY (btY (btY (btY (btY (btY bw7 bw8) bw9) bw10) bw11) CN) bw15) bw16) bw17) bw18) bw19) bw20) bw21)) (ST.below (btY (btY (btY (btY (btY bw16 bw17) bw18) bw19) bw20) bw21))).mono ?_
  rintro e w22 ⟨rfl, bw22⟩
  have cw18 := btY cw17 bw18
  have cw19 := btY cw18 bw19
  have cw20 := btY cw19 bw20
  have cw21 := btY cw20 bw21
  have cw22 := btY cw21 bw22
  go_wp2_with fail
  refine bodyPost_ret (v := .bool true) (by simp [results, Tryz.results3, go_sem]) rfl ⟨rfl, cw22⟩
set_option maxRecDepth 100000 in
set_option maxHeartbeats 4000000 in
theorem tl_ge0_D1 (a : Option Addr) (c : Nat) (s : List Ent) (now : Int) (key : ByteArray) (x : Itm) (til : Int) (p : ByteArray) (w : World) (p1 : Option Addr) (q1 : Nat) (p2 : Option Addr) (q2 : Nat) (p3 : Option Addr) (q3 : Nat) (o : Itm) (CS : Int) (d : Ent) (Q : List Ent) (L : List ByteArray) (hs : SpaceAt w a s) (hx : ItemIs w (.agg #[.int .i64 x.k, .string x.t, .slice p1 x.l.length q1, .slice p2 x.p.length q2, .slice p3 x.s.length q3]) x)
    (HG : CGx0 a c s now key o)
    (HP : CPx1 a c s now key x til p1 q1 p2 q2 p3 q3)
    (HU : CUx0 a c s now key d)
    (HK : CKx1 a c s now p L)
    (HS : CSx0 a c s now Q)
    (HCA : CCAx0 a c s now key)
    (HCB : CCBx0 a c s now)
    (HN : CNx1 x)
    (HCI : CCIx0 x p1 q1 p2 q2 p3 q3)
    (HL : CLx0 a c s now key d)
    (HCG : CCGx1 p)
    (HKO : CKOx0 a c s now p L)
    (HSO : CSOx0 a c s now Q)
    (HBG : CBGx0 )
    (HCK : CCKx0 a c s CS)
    (HCS : CCSx0 a c s CS)
    (HOO : COOx0 o d)
    (HSI1 : CSI1x1 )
    (HTT : CTTx1 L)
    (HSI2 : CSI2x0 Q)
    (hsn : s.length ≤ 16) (hqn : Q.length ≤ 16) (hdk : (d.item.k == 0) = false) (ht1 : (til != 0) = true) (ht2 : decide (til ≤ now) = true) :
    Calls Tryz.prog 3 #[.slice a s.length c, .int .i64 now, .string key, .agg #[.int .i64 x.k, .string x.t, .slice p1 x.l.length q1, .slice p2 x.p.length q2, .slice p3 x.s.length q3], .int .i64 til, .string p] w fun e w' => e = .returned (.bool true) ∧ Below w.heap.size w w' := by
  obtain ⟨V0, hV0, AV0, BX⟩ := newbox w (.cells #[.int .i64 x.k, .string x.t, .slice p1 x.l.length q1, .slice p2 x.p.length q2, .slice p3 x.s.length q3] 28)
  go_enter Tryz.func3, Tryz.ntmps3
  go_wp2_with fail
  refine (HG V0 (hs.below AV0)).mono ?_
  rintro e w1 ⟨⟨b1, e1, b2, e2, b3, e3, rfl, IO⟩, bw1⟩
  clear hV0
  obtain ⟨V2, hV2, AV2, BO⟩ := newbox w1 (.cells #[.int .i64 o.k, .string o.t, .slice b1 o.l.length e1, .slice b2 o.p.length e2, .slice b3 o.s.length e3] 28)
  have xh := ((btY bw1 AV2).block _ (Array.getElem?_eq_some_iff.1 BX).1).trans BX
  have x0 : V2.cell? ⟨w.heap.size, 0, none⟩ = some (.int .i64 x.k) := by simp [World.cell?, xh]
  have x1 : V2.cell? ⟨w.heap.size, 1, none⟩ = some (.string x.t) := by simp [World.cell?, xh]
  have x2 : V2.cell? ⟨w.heap.size, 2, none⟩ = some (.slice p1 x.l.length q1) := by simp [World.cell?, xh]
  have x3 : V2.cell? ⟨w.heap.size, 3, none⟩ = some (.slice p2 x.p.length q2) := by simp [World.cell?, xh]
  have x4 : V2.cell? ⟨w.heap.size, 4, none⟩ = some (.slice p3 x.s.length q3) := by simp [World.cell?, xh]
  have cw1 := btY AV0 bw1
  have cV2 := btY cw1 AV2
  go_wp2_with fail
  refine (HP V2 (hs.below cV2) (hx.below cV2)).mono ?_
  rintro e w3 ⟨⟨ao, co, rfl⟩, bw3⟩
  clear hV2 xh x0 x1 x2 x3 x4
  have cw3 := btY cV2 bw3
  go_wp2_with fail
  refine (HU w3 (hs.below cw3)).mono ?_
  rintro e w4 ⟨rfl, bw4⟩
  have cw4 := btY cw3 bw4
  go_wp2_with fail
  refine (HK w4 (hs.below cw4)).mono ?_
  rintro e w5 ⟨⟨ak, ck, rfl, TK⟩, bw5⟩
  have cw5 := btY cw4 bw5
  go_wp2_with fail
  refine (HS w5 (hs.below cw5)).mono ?_
  rintro e w6 ⟨⟨aq, cq, rfl, SQ⟩, bw6⟩
  have cw6 := btY cw5 bw6
  go_wp2_with fail
  refine (HCA w6 (hs.below cw6)).mono ?_
  rintro e w7 ⟨rfl, bw7⟩
  have cw7 := btY cw6 bw7
  go_wp2_with fail
  refine (HCB w7 (hs.below cw7)).mono ?_
  rintro e w8 ⟨rfl, bw8⟩
  have xh := ((btY (btY (btY (btY (btY (btY (btY bw1 AV2) bw3) bw4) bw5) bw6) bw7) bw8).block _ (Array.getElem?_eq_some_iff.1 BX).1).trans BX
  have x0 : w8.cell? ⟨w.heap.size, 0, none⟩ = some (.int .i64 x.k) := by simp [World.cell?, xh]
  have x1 : w8.cell? ⟨w.heap.size, 1, none⟩ = some (.string x.t) := by simp [World.cell?, xh]
  have x2 : w8.cell? ⟨w.heap.size, 2, none⟩ = some (.slice p1 x.l.length q1) := by simp [World.cell?, xh]
  have x3 : w8.cell? ⟨w.heap.size, 3, none⟩ = some (.slice p2 x.p.length q2) := by simp [World.cell?, xh]
  have x4 : w8.cell? ⟨w.heap.size, 4, none⟩ = some (.slice p3 x.s.length q3) := by simp [World.cell?, xh]
  go_wp2_with fail
  refine (HN p1 q1 p2 q2 p3 q3 w8).mono ?_
  rintro e w9 ⟨rfl, bw9⟩
  clear xh x0 x1 x2 x3 x4
  have xh := ((btY (btY (btY (btY (btY (btY (btY (btY bw1 AV2) bw3) bw4) bw5) bw6) bw7) bw8) bw9).block _ (Array.getElem?_eq_some_iff.1 BX).1).trans BX
  have x0 : w9.cell? ⟨w.heap.size, 0, none⟩ = some (.int .i64 x.k) := by simp [World.cell?, xh]
  have x1 : w9.cell? ⟨w.heap.size, 1, none⟩ = some (.string x.t) := by simp [World.cell?, xh]
  have x2 : w9.cell? ⟨w.heap.size, 2, none⟩ = some (.slice p1 x.l.length q1) := by simp [World.cell?, xh]
  have x3 : w9.cell? ⟨w.heap.size, 3, none⟩ = some (.slice p2 x.p.length q2) := by simp [World.cell?, xh]
  have x4 : w9.cell? ⟨w.heap.size, 4, none⟩ = some (.slice p3 x.s.length q3) := by simp [World.cell?, xh]
  have cw8 := btY cw7 bw8
  have cw9 := btY cw8 bw9
  go_wp2_with fail
  refine (HCI w9 (hx.below cw9)).mono ?_
  rintro e w10 ⟨rfl, bw10⟩
  clear xh x0 x1 x2 x3 x4
  go_wp2_with fail
  refine (HCG w10).mono ?_
  rintro e w11 ⟨rfl, bw11⟩
  obtain ⟨V12, hV12, AV12, BG⟩ := newbox w11 (.cells #[.int .i64 0, .string ⟨#[]⟩, .slice none 0 0, .slice none 0 0, .slice none 0 0] 28)
  have cw10 := btY cw9 bw10
  have cw11 := btY cw10 bw11
  go_wp2_with fail
  refine (HL w11 V12 AV12 (hs.below cw11)).mono ?_
  rintro e w13 ⟨⟨y1, z1, y2, z2, y3, z3, rfl, hid⟩, bw13⟩
  clear hV12
  obtain ⟨V14, hV14, AV14, BY⟩ := newbox w13 (.cells #[.string d.key, .int .i64 d.item.k, .string d.item.t, .slice y1 d.item.l.length z1, .slice y2 d.item.p.length z2, .slice y3 d.item.s.length z3, .int .i64 d.til] 45)
  have yc0 : V14.cell? ⟨w13.heap.size, 0, none⟩ = some (.string d.key) := by simp [World.cell?, BY]
  have yc1 : V14.cell? ⟨w13.heap.size, 1, none⟩ = some (.int .i64 d.item.k) := by simp [World.cell?, BY]
  have yc2 : V14.cell? ⟨w13.heap.size, 2, none⟩ = some (.string d.item.t) := by simp [World.cell?, BY]
  have yc3 : V14.cell? ⟨w13.heap.size, 3, none⟩ = some (.slice y1 d.item.l.length z1) := by simp [World.cell?, BY]
  have yc4 : V14.cell? ⟨w13.heap.size, 4, none⟩ = some (.slice y2 d.item.p.length z2) := by simp [World.cell?, BY]
  have yc5 : V14.cell? ⟨w13.heap.size, 5, none⟩ = some (.slice y3 d.item.s.length z3) := by simp [World.cell?, BY]
  have yc6 : V14.cell? ⟨w13.heap.size, 6, none⟩ = some (.int .i64 d.til) := by simp [World.cell?, BY]
  have gh := ((btY bw13 AV14).block _ (Array.getElem?_eq_some_iff.1 BG).1).trans BG
  have g0 : V14.cell? ⟨w11.heap.size, 0, none⟩ = some (.int .i64 0) := by simp [World.cell?, gh]
  have g1 : V14.cell? ⟨w11.heap.size, 1, none⟩ = some (.string ⟨#[]⟩) := by simp [World.cell?, gh]
  have g2 : V14.cell? ⟨w11.heap.size, 2, none⟩ = some (.slice none 0 0) := by simp [World.cell?, gh]
  have g3 : V14.cell? ⟨w11.heap.size, 3, none⟩ = some (.slice none 0 0) := by simp [World.cell?, gh]
  have g4 : V14.cell? ⟨w11.heap.size, 4, none⟩ = some (.slice none 0 0) := by simp [World.cell?, gh]
  have gf0 : V14.frozen? ⟨w11.heap.size, 0, none⟩ = false := by simp [World.frozen?, gh]
  have gf1 : V14.frozen? ⟨w11.heap.size, 1, none⟩ = false := by simp [World.frozen?, gh]
  have gf2 : V14.frozen? ⟨w11.heap.size, 2, none⟩ = false := by simp [World.frozen?, gh]
  have gf3 : V14.frozen? ⟨w11.heap.size, 3, none⟩ = false := by simp [World.frozen?, gh]
  have gf4 : V14.frozen? ⟨w11.heap.size, 4, none⟩ = false := by simp [World.frozen?, gh]
  have hne1 : ¬ w11.heap.size = w13.heap.size := by have := (Array.getElem?_eq_some_iff.1 ((bw13.block _ (Array.getElem?_eq_some_iff.1 BG).1).trans BG)).1; omega
  have hne2 : ¬ w13.heap.size = w11.heap.size := fun h => hne1 h.symm
  obtain ⟨W9, hW9⟩ : ∃ W', (((((V14.setCell ⟨w11.heap.size, 0, none⟩ (.int .i64 d.item.k)).setCell ⟨w11.heap.size, 1, none⟩ (.string d.item.t)).setCell ⟨w11.heap.size, 2, none⟩ (.slice y1 d.item.l.length z1)).setCell ⟨w11.heap.size, 3, none⟩ (.slice y2 d.item.p.length z2)).setCell ⟨w11.heap.size, 4, none⟩ (.slice y3 d.item.s.length z3)).drew = W' := ⟨_, rfl⟩
  have GN : W9.heap[w11.heap.size]? = some (.cells #[.int .i64 d.item.k, .string d.item.t, .slice y1 d.item.l.length z1, .slice y2 d.item.p.length z2, .slice y3 d.item.s.length z3] 28 (0, 0)) := by
    rw [← hW9]
    show (((((V14.setCell ⟨w11.heap.size, 0, none⟩ (.int .i64 d.item.k)).setCell ⟨w11.heap.size, 1, none⟩ (.string d.item.t)).setCell ⟨w11.heap.size, 2, none⟩ (.slice y1 d.item.l.length z1)).setCell ⟨w11.heap.size, 3, none⟩ (.slice y2 d.item.p.length z2)).setCell ⟨w11.heap.size, 4, none⟩ (.slice y3 d.item.s.length z3)).heap[w11.heap.size]? = _
    rw [(setCell_heapY (setCell_heapY (setCell_heapY (setCell_heapY (setCell_heapY gh 0 _) 1 _) 2 _) 3 _) 4 _)]; rfl
  have CN : Below w11.heap.size w11 W9 := hW9 ▸ ((((((btY (btY AV12 bw13) AV14).setCell (p := ⟨w11.heap.size, 0, none⟩) (Nat.le_refl _) _).setCell (p := ⟨w11.heap.size, 1, none⟩) (Nat.le_refl _) _).setCell (p := ⟨w11.heap.size, 2, none⟩) (Nat.le_refl _) _).setCell (p := ⟨w11.heap.size, 3, none⟩) (Nat.le_refl _) _).setCell (p := ⟨w11.heap.size, 4, none⟩) (Nat.le_refl _) _).drew
  have KN : Kept (one (w11.heap.size)) V14 W9 := hW9 ▸ ((((((Kept.refl (one (w11.heap.size)) V14).set1 0 _).set1 1 _).set1 2 _).set1 3 _).set1 4 _).drew
  have BY9 := (KN.block _ (Array.getElem?_eq_some_iff.1 BY).1 (by simp only [one]; omega)).trans BY
  have HW9 := hide hW9
  have HKN := hide KN
  have HCN := hide CN
  have HGN := hide GN
  have HBY9 := hide BY9
  clear hW9 KN CN GN BY9
  go_wp2_with fail
  go_big_region
  rw [HW9.out]
  have CN := HCN.out
  have GN := HGN.out
  have BY9 := HBY9.out
  clear yc0 yc1 yc2 yc3 yc4 yc5 yc6 gh g0 g1 g2 g3 g4 gf0 gf1 gf2 gf3 gf4 HW9 HKN HCN HGN HBY9 hne1 hne2 hV14
  have yd1 : W9.cell? ⟨w13.heap.size, 1, none⟩ = some (.int .i64 d.item.k) := by simp [World.cell?, BY9]
  have cW9N := btY cw11 CN
  go_wp2_with fail
  refine (HKO W9 (hs.below cW9N)).mono ?_
  rintro e w15 ⟨⟨al, cl, rfl, TL⟩, bw15⟩
  clear yd1
  have cw15 := btY cW9N bw15
  go_wp2_with fail
  refine (HSO w15 (hs.below cw15)).mono ?_
  rintro e w16 ⟨⟨ar, cr, rfl, ST⟩, bw16⟩
  go_wp2_with fail
  refine (HBG w16).mono ?_
  rintro e w17 ⟨rfl, bw17⟩
  have cw16 := btY cw15 bw16
  have cw17 := btY cw16 bw17
  go_wp2_with fail
  refine (HCK w17 (hs.below cw17)).mono ?_
  rintro e w18 ⟨rfl, bw18⟩
  have cw18 := btY cw17 bw18
  go_wp2_with fail
  refine (HCS w18 (hs.below cw18)).mono ?_
  rintro e w19 ⟨rfl, bw19⟩
  have oh := ((btY (btY (btY (btY (btY (btY (btY (btY (btY (btY (btY (btY (btY (btY bw3 bw4) bw5) bw6) bw7) bw8) bw9) bw10) bw11) CN) bw15) bw16) bw17) bw18) bw19).block _ (Array.getElem?_eq_some_iff.1 BO).1).trans BO
  have o0 : w19.cell? ⟨w1.heap.size, 0, none⟩ = some (.int .i64 o.k) := by simp [World.cell?, oh]
  have o1 : w19.cell? ⟨w1.heap.size, 1, none⟩ = some (.string o.t) := by simp [World.cell?, oh]
  have o2 : w19.cell? ⟨w1.heap.size, 2, none⟩ = some (.slice b1 o.l.length e1) := by simp [World.cell?, oh]
  have o3 : w19.cell? ⟨w1.heap.size, 3, none⟩ = some (.slice b2 o.p.length e2) := by simp [World.cell?, oh]
  have o4 : w19.cell? ⟨w1.heap.size, 4, none⟩ = some (.slice b3 o.s.length e3) := by simp [World.cell?, oh]
  have gh := ((btY (btY (btY (btY bw15 bw16) bw17) bw18) bw19).block _ (Array.getElem?_eq_some_iff.1 GN).1).trans GN
  have g0 : w19.cell? ⟨w11.heap.size, 0, none⟩ = some (.int .i64 d.item.k) := by simp [World.cell?, gh]
  have g1 : w19.cell? ⟨w11.heap.size, 1, none⟩ = some (.string d.item.t) := by simp [World.cell?, gh]
  have g2 : w19.cell? ⟨w11.heap.size, 2, none⟩ = some (.slice y1 d.item.l.length z1) := by simp [World.cell?, gh]
  have g3 : w19.cell? ⟨w11.heap.size, 3, none⟩ = some (.slice y2 d.item.p.length z2) := by simp [World.cell?, gh]
  have g4 : w19.cell? ⟨w11.heap.size, 4, none⟩ = some (.slice y3 d.item.s.length z3) := by simp [World.cell?, gh]
  go_wp2_with fail
  refine (HOO _ _ w19 (IO.below (btY (btY (btY (btY (btY (btY (btY (btY (btY (btY (btY (btY (btY (btY (btY AV2 bw3) bw4) bw5) bw6) bw7) bw8) bw9) bw10) bw11) CN) bw15) bw16) bw17) bw18) bw19)) (hid.below (btY (btY (btY (btY (btY CN bw15) bw16) bw17) bw18) bw19))).mono ?_
  rintro e w20 ⟨rfl, bw20⟩
  clear oh o0 o1 o2 o3 o4 gh g0 g1 g2 g3 g4
  go_wp2_with fail
  refine (HSI1 ao co w20).mono ?_
  rintro e w21 ⟨rfl, bw21⟩
  go_wp2_with fail
  refine (HTT ak ck al cl w21 (TK.below (btY (btY (btY (btY (btY (btY (btY (btY (btY (btY (btY (btY (btY bw6 bw7) bw8) bw9) bw10) bw11) CN) bw15) bw16) bw17) bw18) bw19) bw20) bw21)) (TL.below (btY (btY (btY (btY (btY bw16 bw17) bw18) bw19) bw20) bw21))).mono ?_
  rintro e w22 ⟨rfl, bw22⟩
  go_wp2_with fail
  refine (HSI2 aq cq ar cr w22 (SQ.below (btY (btY (btY (btY (btY (btY (btY (btY (btY (btY (btY (btY (btY bw7 bw8) bw9) bw10) bw11) CN) bw15) bw16) bw17) bw18) bw19) bw20) bw21) bw22)) (ST.below (btY (btY (btY (btY (btY bw17 bw18) bw19) bw20) bw21) bw22))).mono ?_
  rintro e w23 ⟨rfl, bw23⟩
  have cw19 := btY cw18 bw19
  have cw20 := btY cw19 bw20
  have cw21 := btY cw20 bw21
  have cw22 := btY cw21 bw22
  have cw23 := btY cw22 bw23
  go_wp2_with fail
  refine bodyPost_ret (v := .bool true) (by simp [results, Tryz.results3, go_sem]) rfl ⟨rfl, cw23⟩
set_option maxRecDepth 100000 in
set_option maxHeartbeats 4000000 in
theorem tl_ge0_N0 (a : Option Addr) (c : Nat) (s : List Ent) (now : Int) (key : ByteArray) (x : Itm) (til : Int) (p : ByteArray) (w : World) (p1 : Option Addr) (q1 : Nat) (p2 : Option Addr) (q2 : Nat) (p3 : Option Addr) (q3 : Nat) (o : Itm) (CS : Int) (d : Ent) (Q : List Ent) (EG : Int) (hs : SpaceAt w a s) (hx : ItemIs w (.agg #[.int .i64 x.k, .string x.t, .slice p1 x.l.length q1, .slice p2 x.p.length q2, .slice p3 x.s.length q3]) x)
    (HG : CGx0 a c s now key o)
    (HP : CPx1 a c s now key x til p1 q1 p2 q2 p3 q3)
    (HU : CUx1 a c s now key)
    (HK : CKx0 a c s now p EG)
    (HS : CSx0 a c s now Q)
    (HCA : CCAx0 a c s now key)
    (HCB : CCBx0 a c s now)
    (HN : CNx1 x)
    (HCI : CCIx0 x p1 q1 p2 q2 p3 q3)
    (HL : CLx0 a c s now key d)
    (HCG : CCGx0 p EG)
    (HSO : CSOx0 a c s now Q)
    (HBG : CBGx0 )
    (HCK : CCKx0 a c s CS)
    (HCS : CCSx0 a c s CS)
    (HOO : COOx0 o d)
    (HSI1 : CSI1x1 )
    (HTT : CTTx0 )
    (HSI2 : CSI2x0 Q)
    (hsn : s.length ≤ 16) (hqn : Q.length ≤ 16) (hg1 : (EG == 0) = false) (hdk : (d.item.k == 0) = true) (ht1 : (til != 0) = true) (ht2 : decide (til ≤ now) = true) :
    Calls Tryz.prog 3 #[.slice a s.length c, .int .i64 now, .string key, .agg #[.int .i64 x.k, .string x.t, .slice p1 x.l.length q1, .slice p2 x.p.length q2, .slice p3 x.s.length q3], .int .i64 til, .string p] w fun e w' => e = .returned (.bool true) ∧ Below w.heap.size w w' := by
  obtain ⟨V0, hV0, AV0, BX⟩ := newbox w (.cells #[.int .i64 x.k, .string x.t, .slice p1 x.l.length q1, .slice p2 x.p.length q2, .slice p3 x.s.length q3] 28)
  go_enter Tryz.func3, Tryz.ntmps3
  go_wp2_with fail
  refine (HG V0 (hs.below AV0)).mono ?_
  rintro e w1 ⟨⟨b1, e1, b2, e2, b3, e3, rfl, IO⟩, bw1⟩
  clear hV0
  obtain ⟨V2, hV2, AV2, BO⟩ := newbox w1 (.cells #[.int .i64 o.k, .string o.t, .slice b1 o.l.length e1, .slice b2 o.p.length e2, .slice b3 o.s.length e3] 28)
  have xh := ((btY bw1 AV2).block _ (Array.getElem?_eq_some_iff.1 BX).1).trans BX
  have x0 : V2.cell? ⟨w.heap.size, 0, none⟩ = some (.int .i64 x.k) := by simp [World.cell?, xh]
  have x1 : V2.cell? ⟨w.heap.size, 1, none⟩ = some (.string x.t) := by simp [World.cell?, xh]
  have x2 : V2.cell? ⟨w.heap.size, 2, none⟩ = some (.slice p1 x.l.length q1) := by simp [World.cell?, xh]
  have x3 : V2.cell? ⟨w.heap.size, 3, none⟩ = some (.slice p2 x.p.length q2) := by simp [World.cell?, xh]
  have x4 : V2.cell? ⟨w.heap.size, 4, none⟩ = some (.slice p3 x.s.length q3) := by simp [World.cell?, xh]
  have cw1 := btY AV0 bw1
  have cV2 := btY cw1 AV2
  go_wp2_with fail
  refine (HP V2 (hs.below cV2) (hx.below cV2)).mono ?_
  rintro e w3 ⟨⟨ao, co, rfl⟩, bw3⟩
  clear hV2 xh x0 x1 x2 x3 x4
  have cw3 := btY cV2 bw3
  go_wp2_with fail
  refine (HU w3 (hs.below cw3)).mono ?_
  rintro e w4 ⟨rfl, bw4⟩
  have cw4 := btY cw3 bw4
  go_wp2_with fail
  refine (HK w4 (hs.below cw4)).mono ?_
  rintro e w5 ⟨⟨ak, ck, rfl⟩, bw5⟩
  have cw5 := btY cw4 bw5
  go_wp2_with fail
  refine (HS w5 (hs.below cw5)).mono ?_
  rintro e w6 ⟨⟨aq, cq, rfl, SQ⟩, bw6⟩
  have cw6 := btY cw5 bw6
  go_wp2_with fail
  refine (HCA w6 (hs.below cw6)).mono ?_
  rintro e w7 ⟨rfl, bw7⟩
  have cw7 := btY cw6 bw7
  go_wp2_with fail
  refine (HCB w7 (hs.below cw7)).mono ?_
  rintro e w8 ⟨rfl, bw8⟩
  have xh := ((btY (btY (btY (btY (btY (btY (btY bw1 AV2) bw3) bw4) bw5) bw6) bw7) bw8).block _ (Array.getElem?_eq_some_iff.1 BX).1).trans BX
  have x0 : w8.cell? ⟨w.heap.size, 0, none⟩ = some (.int .i64 x.k) := by simp [World.cell?, xh]
  have x1 : w8.cell? ⟨w.heap.size, 1, none⟩ = some (.string x.t) := by simp [World.cell?, xh]
  have x2 : w8.cell? ⟨w.heap.size, 2, none⟩ = some (.slice p1 x.l.length q1) := by simp [World.cell?, xh]
  have x3 : w8.cell? ⟨w.heap.size, 3, none⟩ = some (.slice p2 x.p.length q2) := by simp [World.cell?, xh]
  have x4 : w8.cell? ⟨w.heap.size, 4, none⟩ = some (.slice p3 x.s.length q3) := by simp [World.cell?, xh]
  go_wp2_with fail
  refine (HN p1 q1 p2 q2 p3 q3 w8).mono ?_
  rintro e w9 ⟨rfl, bw9⟩
  clear xh x0 x1 x2 x3 x4
  have xh := ((btY (btY (btY (btY (btY (btY (btY (btY bw1 AV2) bw3) bw4) bw5) bw6) bw7) bw8) bw9).block _ (Array.getElem?_eq_some_iff.1 BX).1).trans BX
  have x0 : w9.cell? ⟨w.heap.size, 0, none⟩ = some (.int .i64 x.k) := by simp [World.cell?, xh]
  have x1 : w9.cell? ⟨w.heap.size, 1, none⟩ = some (.string x.t) := by simp [World.cell?, xh]
  have x2 : w9.cell? ⟨w.heap.size, 2, none⟩ = some (.slice p1 x.l.length q1) := by simp [World.cell?, xh]
  have x3 : w9.cell? ⟨w.heap.size, 3, none⟩ = some (.slice p2 x.p.length q2) := by simp [World.cell?, xh]
  have x4 : w9.cell? ⟨w.heap.size, 4, none⟩ = some (.slice p3 x.s.length q3) := by simp [World.cell?, xh]
  have cw8 := btY cw7 bw8
  have cw9 := btY cw8 bw9
  go_wp2_with fail
  refine (HCI w9 (hx.below cw9)).mono ?_
  rintro e w10 ⟨rfl, bw10⟩
  clear xh x0 x1 x2 x3 x4
  go_wp2_with fail
  refine (HCG w10).mono ?_
  rintro e w11 ⟨rfl, bw11⟩
  obtain ⟨V12, hV12, AV12, BG⟩ := newbox w11 (.cells #[.int .i64 0, .string ⟨#[]⟩, .slice none 0 0, .slice none 0 0, .slice none 0 0] 28)
  have cw10 := btY cw9 bw10
  have cw11 := btY cw10 bw11
  go_wp2_with fail
  refine (HL w11 V12 AV12 (hs.below cw11)).mono ?_
  rintro e w13 ⟨⟨y1, z1, y2, z2, y3, z3, rfl, hid⟩, bw13⟩
  clear hV12
  obtain ⟨V14, hV14, AV14, BY⟩ := newbox w13 (.cells #[.string d.key, .int .i64 d.item.k, .string d.item.t, .slice y1 d.item.l.length z1, .slice y2 d.item.p.length z2, .slice y3 d.item.s.length z3, .int .i64 d.til] 45)
  have yc0 : V14.cell? ⟨w13.heap.size, 0, none⟩ = some (.string d.key) := by simp [World.cell?, BY]
  have yc1 : V14.cell? ⟨w13.heap.size, 1, none⟩ = some (.int .i64 d.item.k) := by simp [World.cell?, BY]
  have yc2 : V14.cell? ⟨w13.heap.size, 2, none⟩ = some (.string d.item.t) := by simp [World.cell?, BY]
  have yc3 : V14.cell? ⟨w13.heap.size, 3, none⟩ = some (.slice y1 d.item.l.length z1) := by simp [World.cell?, BY]
  have yc4 : V14.cell? ⟨w13.heap.size, 4, none⟩ = some (.slice y2 d.item.p.length z2) := by simp [World.cell?, BY]
  have yc5 : V14.cell? ⟨w13.heap.size, 5, none⟩ = some (.slice y3 d.item.s.length z3) := by simp [World.cell?, BY]
  have yc6 : V14.cell? ⟨w13.heap.size, 6, none⟩ = some (.int .i64 d.til) := by simp [World.cell?, BY]
  have gh := ((btY bw13 AV14).block _ (Array.getElem?_eq_some_iff.1 BG).1).trans BG
  have g0 : V14.cell? ⟨w11.heap.size, 0, none⟩ = some (.int .i64 0) := by simp [World.cell?, gh]
  have g1 : V14.cell? ⟨w11.heap.size, 1, none⟩ = some (.string ⟨#[]⟩) := by simp [World.cell?, gh]
  have g2 : V14.cell? ⟨w11.heap.size, 2, none⟩ = some (.slice none 0 0) := by simp [World.cell?, gh]
  have g3 : V14.cell? ⟨w11.heap.size, 3, none⟩ = some (.slice none 0 0) := by simp [World.cell?, gh]
  have g4 : V14.cell? ⟨w11.heap.size, 4, none⟩ = some (.slice none 0 0) := by simp [World.cell?, gh]
  have gf0 : V14.frozen? ⟨w11.heap.size, 0, none⟩ = false := by simp [World.frozen?, gh]
  have gf1 : V14.frozen? ⟨w11.heap.size, 1, none⟩ = false := by simp [World.frozen?, gh]
  have gf2 : V14.frozen? ⟨w11.heap.size, 2, none⟩ = false := by simp [World.frozen?, gh]
  have gf3 : V14.frozen? ⟨w11.heap.size, 3, none⟩ = false := by simp [World.frozen?, gh]
  have gf4 : V14.frozen? ⟨w11.heap.size, 4, none⟩ = false := by simp [World.frozen?, gh]
  have hne1 : ¬ w11.heap.size = w13.heap.size := by have := (Array.getElem?_eq_some_iff.1 ((bw13.block _ (Array.getElem?_eq_some_iff.1 BG).1).trans BG)).1; omega
  have hne2 : ¬ w13.heap.size = w11.heap.size := fun h => hne1 h.symm
  obtain ⟨W9, hW9⟩ : ∃ W', (((((V14.setCell ⟨w11.heap.size, 0, none⟩ (.int .i64 d.item.k)).setCell ⟨w11.heap.size, 1, none⟩ (.string d.item.t)).setCell ⟨w11.heap.size, 2, none⟩ (.slice y1 d.item.l.length z1)).setCell ⟨w11.heap.size, 3, none⟩ (.slice y2 d.item.p.length z2)).setCell ⟨w11.heap.size, 4, none⟩ (.slice y3 d.item.s.length z3)).drew = W' := ⟨_, rfl⟩
  have GN : W9.heap[w11.heap.size]? = some (.cells #[.int .i64 d.item.k, .string d.item.t, .slice y1 d.item.l.length z1, .slice y2 d.item.p.length z2, .slice y3 d.item.s.length z3] 28 (0, 0)) := by
    rw [← hW9]
    show (((((V14.setCell ⟨w11.heap.size, 0, none⟩ (.int .i64 d.item.k)).setCell ⟨w11.heap.size, 1, none⟩ (.string d.item.t)).setCell ⟨w11.heap.size, 2, none⟩ (.slice y1 d.item.l.length z1)).setCell ⟨w11.heap.size, 3, none⟩ (.slice y2 d.item.p.length z2)).setCell ⟨w11.heap.size, 4, none⟩ (.slice y3 d.item.s.length z3)).heap[w11.heap.size]? = _
    rw [(setCell_heapY (setCell_heapY (setCell_heapY (setCell_heapY (setCell_heapY gh 0 _) 1 _) 2 _) 3 _) 4 _)]; rfl
  have CN : Below w11.heap.size w11 W9 := hW9 ▸ ((((((btY (btY AV12 bw13) AV14).setCell (p := ⟨w11.heap.size, 0, none⟩) (Nat.le_refl _) _).setCell (p := ⟨w11.heap.size, 1, none⟩) (Nat.le_refl _) _).setCell (p := ⟨w11.heap.size, 2, none⟩) (Nat.le_refl _) _).setCell (p := ⟨w11.heap.size, 3, none⟩) (Nat.le_refl _) _).setCell (p := ⟨w11.heap.size, 4, none⟩) (Nat.le_refl _) _).drew
  have KN : Kept (one (w11.heap.size)) V14 W9 := hW9 ▸ ((((((Kept.refl (one (w11.heap.size)) V14).set1 0 _).set1 1 _).set1 2 _).set1 3 _).set1 4 _).drew
  have BY9 := (KN.block _ (Array.getElem?_eq_some_iff.1 BY).1 (by simp only [one]; omega)).trans BY
  have HW9 := hide hW9
  have HKN := hide KN
  have HCN := hide CN
  have HGN := hide GN
  have HBY9 := hide BY9
  clear hW9 KN CN GN BY9
  go_wp2_with fail
  go_big_region
  rw [HW9.out]
  have CN := HCN.out
  have GN := HGN.out
  have BY9 := HBY9.out
  clear yc0 yc1 yc2 yc3 yc4 yc5 yc6 gh g0 g1 g2 g3 g4 gf0 gf1 gf2 gf3 gf4 HW9 HKN HCN HGN HBY9 hne1 hne2 hV14
  have yd1 : W9.cell? ⟨w13.heap.size, 1, none⟩ = some (.int .i64 d.item.k) := by simp [World.cell?, BY9]
  have cW9N := btY cw11 CN
  go_wp2_with fail
  refine (HSO W9 (hs.below cW9N)).mono ?_
  rintro e w15 ⟨⟨ar, cr, rfl, ST⟩, bw15⟩
  clear yd1
  go_wp2_with fail
  refine (HBG w15).mono ?_
  rintro e w16 ⟨rfl, bw16⟩
  have cw15 := btY cW9N bw15
  have cw16 := btY cw15 bw16
  go_wp2_with fail
  refine (HCK w16 (hs.below cw16)).mono ?_
  rintro e w17 ⟨rfl, bw17⟩
  have cw17 := btY cw16 bw17
  go_wp2_with fail
  refine (HCS w17 (hs.below cw17)).mono ?_
  rintro e w18 ⟨rfl, bw18⟩
  have oh := ((btY (btY (btY (btY (btY (btY (btY (btY (btY (btY (btY (btY (btY bw3 bw4) bw5) bw6) bw7) bw8) bw9) bw10) bw11) CN) bw15) bw16) bw17) bw18).block _ (Array.getElem?_eq_some_iff.1 BO).1).trans BO
  have o0 : w18.cell? ⟨w1.heap.size, 0, none⟩ = some (.int .i64 o.k) := by simp [World.cell?, oh]
  have o1 : w18.cell? ⟨w1.heap.size, 1, none⟩ = some (.string o.t) := by simp [World.cell?, oh]
  have o2 : w18.cell? ⟨w1.heap.size, 2, none⟩ = some (.slice b1 o.l.length e1) := by simp [World.cell?, oh]
  have o3 : w18.cell? ⟨w1.heap.size, 3, none⟩ = some (.slice b2 o.p.length e2) := by simp [World.cell?, oh]
  have o4 : w18.cell? ⟨w1.heap.size, 4, none⟩ = some (.slice b3 o.s.length e3) := by simp [World.cell?, oh]
  have gh := ((btY (btY (btY bw15 bw16) bw17) bw18).block _ (Array.getElem?_eq_some_iff.1 GN).1).trans GN
  have g0 : w18.cell? ⟨w11.heap.size, 0, none⟩ = some (.int .i64 d.item.k) := by simp [World.cell?, gh]
  have g1 : w18.cell? ⟨w11.heap.size, 1, none⟩ = some (.string d.item.t) := by simp [World.cell?, gh]
  have g2 : w18.cell? ⟨w11.heap.size, 2, none⟩ = some (.slice y1 d.item.l.length z1) := by simp [World.cell?, gh]
  have g3 : w18.cell? ⟨w11.heap.size, 3, none⟩ = some (.slice y2 d.item.p.length z2) := by simp [World.cell?, gh]
  have g4 : w18.cell? ⟨w11.heap.size, 4, none⟩ = some (.slice y3 d.item.s.length z3) := by simp [World.cell?, gh]
  go_wp2_with fail
  refine (HOO _ _ w18 (IO.below (btY (btY (btY (btY (btY (btY (btY (btY (btY (btY (btY (btY (btY (btY AV2 bw3) bw4) bw5) bw6) bw7) bw8) bw9) bw10) bw11) CN) bw15) bw16) bw17) bw18)) (hid.below (btY (btY (btY (btY CN bw15) bw16) bw17) bw18))).mono ?_
  rintro e w19 ⟨rfl, bw19⟩
  clear oh o0 o1 o2 o3 o4 gh g0 g1 g2 g3 g4
  go_wp2_with fail
  refine (HSI1 ao co w19).mono ?_
  rintro e w20 ⟨rfl, bw20⟩
  go_wp2_with fail
  refine (HTT ak ck w20).mono ?_
  rintro e w21 ⟨rfl, bw21⟩
  go_wp2_with fail
  refine (HSI2 aq cq ar cr w21 (SQ.below (btY (btY (btY (btY (btY (btY (btY (btY (btY (btY (btY (btY bw7 bw8) bw9) bw10) bw11) CN) bw15) bw16) bw17) bw18) bw19) bw20) bw21)) (ST.below (btY (btY (btY (btY (btY bw16 bw17) bw18) bw19) bw20) bw21))).mono ?_
  rintro e w22 ⟨rfl, bw22⟩
  have cw18 := btY cw17 bw18
  have cw19 := btY cw18 bw19
  have cw20 := btY cw19 bw20
  have cw21 := btY cw20 bw21
  have cw22 := btY cw21 bw22
  go_wp2_with fail
  refine bodyPost_ret (v := .bool true) (by simp [results, Tryz.results3, go_sem]) rfl ⟨rfl, cw22⟩
set_option maxRecDepth 100000 in
set_option maxHeartbeats 4000000 in
theorem tl_ge0_N1 (a : Option Addr) (c : Nat) (s : List Ent) (now : Int) (key : ByteArray) (x : Itm) (til : Int) (p : ByteArray) (w : World) (p1 : Option Addr) (q1 : Nat) (p2 : Option Addr) (q2 : Nat) (p3 : Option Addr) (q3 : Nat) (o : Itm) (CS : Int) (d : Ent) (Q : List Ent) (L : List ByteArray) (hs : SpaceAt w a s) (hx : ItemIs w (.agg #[.int .i64 x.k, .string x.t, .slice p1 x.l.length q1, .slice p2 x.p.length q2, .slice p3 x.s.length q3]) x)
    (HG : CGx0 a c s now key o)
    (HP : CPx1 a c s now key x til p1 q1 p2 q2 p3 q3)
    (HU : CUx1 a c s now key)
    (HK : CKx1 a c s now p L)
    (HS : CSx0 a c s now Q)
    (HCA : CCAx0 a c s now key)
    (HCB : CCBx0 a c s now)
    (HN : CNx1 x)
    (HCI : CCIx0 x p1 q1 p2 q2 p3 q3)
    (HL : CLx0 a c s now key d)
    (HCG : CCGx1 p)
    (HKO : CKOx0 a c s now p L)
    (HSO : CSOx0 a c s now Q)
    (HBG : CBGx0 )
    (HCK : CCKx0 a c s CS)
    (HCS : CCSx0 a c s CS)
    (HOO : COOx0 o d)
    (HSI1 : CSI1x1 )
    (HTT : CTTx1 L)
    (HSI2 : CSI2x0 Q)
    (hsn : s.length ≤ 16) (hqn : Q.length ≤ 16) (hdk : (d.item.k == 0) = true) (ht1 : (til != 0) = true) (ht2 : decide (til ≤ now) = true) :
    Calls Tryz.prog 3 #[.slice a s.length c, .int .i64 now, .string key, .agg #[.int .i64 x.k, .string x.t, .slice p1 x.l.length q1, .slice p2 x.p.length q2, .slice p3 x.s.length q3], .int .i64 til, .string p] w fun e w' => e = .returned (.bool true) ∧ Below w.heap.size w w' := by
  obtain ⟨V0, hV0, AV0, BX⟩ := newbox w (.cells #[.int .i64 x.k, .string x.t, .slice p1 x.l.length q1, .slice p2 x.p.length q2, .slice p3 x.s.length q3] 28)
  go_enter Tryz.func3, Tryz.ntmps3
  go_wp2_with fail
  refine (HG V0 (hs.below AV0)).mono ?_
  rintro e w1 ⟨⟨b1, e1, b2, e2, b3, e3, rfl, IO⟩, bw1⟩
  clear hV0
  obtain ⟨V2, hV2, AV2, BO⟩ := newbox w1 (.cells #[.int .i64 o.k, .string o.t, .slice b1 o.l.length e1, .slice b2 o.p.length e2, .slice b3 o.s.length e3] 28)
  have xh := ((btY bw1 AV2).block _ (Array.getElem?_eq_some_iff.1 BX).1).trans BX
  have x0 : V2.cell? ⟨w.heap.size, 0, none⟩ = some (.int .i64 x.k) := by simp [World.cell?, xh]
  have x1 : V2.cell? ⟨w.heap.size, 1, none⟩ = some (.string x.t) := by simp [World.cell?, xh]
  have x2 : V2.cell? ⟨w.heap.size, 2, none⟩ = some (.slice p1 x.l.length q1) := by simp [World.cell?, xh]
  have x3 : V2.cell? ⟨w.heap.size, 3, none⟩ = some (.slice p2 x.p.length q2) := by simp [World.cell?, xh]
  have x4 : V2.cell? ⟨w.heap.size, 4, none⟩ = some (.slice p3 x.s.length q3) := by simp [World.cell?, xh]
  have cw1 := btY AV0 bw1
  have cV2 := btY cw1 AV2
  go_wp2_with fail
  refine (HP V2 (hs.below cV2) (hx.below cV2)).mono ?_
  rintro e w3 ⟨⟨ao, co, rfl⟩, bw3⟩
  clear hV2 xh x0 x1 x2 x3 x4
  have cw3 := btY cV2 bw3
  go_wp2_with fail
  refine (HU w3 (hs.below cw3)).mono ?_
  rintro e w4 ⟨rfl, bw4⟩
  have cw4 := btY cw3 bw4
  go_wp2_with fail
  refine (HK w4 (hs.below cw4)).mono ?_
  rintro e w5 ⟨⟨ak, ck, rfl, TK⟩, bw5⟩
  have cw5 := btY cw4 bw5
  go_wp2_with fail
  refine (HS w5 (hs.below cw5)).mono ?_
  rintro e w6 ⟨⟨aq, cq, rfl, SQ⟩, bw6⟩
  have cw6 := btY cw5 bw6
  go_wp2_with fail
  refine (HCA w6 (hs.below cw6)).mono ?_
  rintro e w7 ⟨rfl, bw7⟩
  have cw7 := btY cw6 bw7
  go_wp2_with fail
  refine (HCB w7 (hs.below cw7)).mono ?_
  rintro e w8 ⟨rfl, bw8⟩
  have xh := ((btY (btY (btY (btY (btY (btY (btY bw1 AV2) bw3) bw4) bw5) bw6) bw7) bw8).block _ (Array.getElem?_eq_some_iff.1 BX).1).trans BX
  have x0 : w8.cell? ⟨w.heap.size, 0, none⟩ = some (.int .i64 x.k) := by simp [World.cell?, xh]
  have x1 : w8.cell? ⟨w.heap.size, 1, none⟩ = some (.string x.t) := by simp [World.cell?, xh]
  have x2 : w8.cell? ⟨w.heap.size, 2, none⟩ = some (.slice p1 x.l.length q1) := by simp [World.cell?, xh]
  have x3 : w8.cell? ⟨w.heap.size, 3, none⟩ = some (.slice p2 x.p.length q2) := by simp [World.cell?, xh]
  have x4 : w8.cell? ⟨w.heap.size, 4, none⟩ = some (.slice p3 x.s.length q3) := by simp [World.cell?, xh]
  go_wp2_with fail
  refine (HN p1 q1 p2 q2 p3 q3 w8).mono ?_
  rintro e w9 ⟨rfl, bw9⟩
  clear xh x0 x1 x2 x3 x4
  have xh := ((btY (btY (btY (btY (btY (btY (btY (btY bw1 AV2) bw3) bw4) bw5) bw6) bw7) bw8) bw9).block _ (Array.getElem?_eq_some_iff.1 BX).1).trans BX
  have x0 : w9.cell? ⟨w.heap.size, 0, none⟩ = some (.int .i64 x.k) := by simp [World.cell?, xh]
  have x1 : w9.cell? ⟨w.heap.size, 1, none⟩ = some (.string x.t) := by simp [World.cell?, xh]
  have x2 : w9.cell? ⟨w.heap.size, 2, none⟩ = some (.slice p1 x.l.length q1) := by simp [World.cell?, xh]
  have x3 : w9.cell? ⟨w.heap.size, 3, none⟩ = some (.slice p2 x.p.length q2) := by simp [World.cell?, xh]
  have x4 : w9.cell? ⟨w.heap.size, 4, none⟩ = some (.slice p3 x.s.length q3) := by simp [World.cell?, xh]
  have cw8 := btY cw7 bw8
  have cw9 := btY cw8 bw9
  go_wp2_with fail
  refine (HCI w9 (hx.below cw9)).mono ?_
  rintro e w10 ⟨rfl, bw10⟩
  clear xh x0 x1 x2 x3 x4
  go_wp2_with fail
  refine (HCG w10).mono ?_
  rintro e w11 ⟨rfl, bw11⟩
  obtain ⟨V12, hV12, AV12, BG⟩ := newbox w11 (.cells #[.int .i64 0, .string ⟨#[]⟩, .slice none 0 0, .slice none 0 0, .slice none 0 0] 28)
  have cw10 := btY cw9 bw10
  have cw11 := btY cw10 bw11
  go_wp2_with fail
  refine (HL w11 V12 AV12 (hs.below cw11)).mono ?_
  rintro e w13 ⟨⟨y1, z1, y2, z2, y3, z3, rfl, hid⟩, bw13⟩
  clear hV12
  obtain ⟨V14, hV14, AV14, BY⟩ := newbox w13 (.cells #[.string d.key, .int .i64 d.item.k, .string d.item.t, .slice y1 d.item.l.length z1, .slice y2 d.item.p.length z2, .slice y3 d.item.s.length z3, .int .i64 d.til] 45)
  have yc0 : V14.cell? ⟨w13.heap.size, 0, none⟩ = some (.string d.key) := by simp [World.cell?, BY]
  have yc1 : V14.cell? ⟨w13.heap.size, 1, none⟩ = some (.int .i64 d.item.k) := by simp [World.cell?, BY]
  have yc2 : V14.cell? ⟨w13.heap.size, 2, none⟩ = some (.string d.item.t) := by simp [World.cell?, BY]
  have yc3 : V14.cell? ⟨w13.heap.size, 3, none⟩ = some (.slice y1 d.item.l.length z1) := by simp [World.cell?, BY]
  have yc4 : V14.cell? ⟨w13.heap.size, 4, none⟩ = some (.slice y2 d.item.p.length z2) := by simp [World.cell?, BY]
  have yc5 : V14.cell? ⟨w13.heap.size, 5, none⟩ = some (.slice y3 d.item.s.length z3) := by simp [World.cell?, BY]
  have yc6 : V14.cell? ⟨w13.heap.size, 6, none⟩ = some (.int .i64 d.til) := by simp [World.cell?, BY]
  have gh := ((btY bw13 AV14).block _ (Array.getElem?_eq_some_iff.1 BG).1).trans BG
  have g0 : V14.cell? ⟨w11.heap.size, 0, none⟩ = some (.int .i64 0) := by simp [World.cell?, gh]
  have g1 : V14.cell? ⟨w11.heap.size, 1, none⟩ = some (.string ⟨#[]⟩) := by simp [World.cell?, gh]
  have g2 : V14.cell? ⟨w11.heap.size, 2, none⟩ = some (.slice none 0 0) := by simp [World.cell?, gh]
  have g3 : V14.cell? ⟨w11.heap.size, 3, none⟩ = some (.slice none 0 0) := by simp [World.cell?, gh]
  have g4 : V14.cell? ⟨w11.heap.size, 4, none⟩ = some (.slice none 0 0) := by simp [World.cell?, gh]
  have gf0 : V14.frozen? ⟨w11.heap.size, 0, none⟩ = false := by simp [World.frozen?, gh]
  have gf1 : V14.frozen? ⟨w11.heap.size, 1, none⟩ = false := by simp [World.frozen?, gh]
  have gf2 : V14.frozen? ⟨w11.heap.size, 2, none⟩ = false := by simp [World.frozen?, gh]
  have gf3 : V14.frozen? ⟨w11.heap.size, 3, none⟩ = false := by simp [World.frozen?, gh]
  have gf4 : V14.frozen? ⟨w11.heap.size, 4, none⟩ = false := by simp [World.frozen?, gh]
  have hne1 : ¬ w11.heap.size = w13.heap.size := by have := (Array.getElem?_eq_some_iff.1 ((bw13.block _ (Array.getElem?_eq_some_iff.1 BG).1).trans BG)).1; omega
  have hne2 : ¬ w13.heap.size = w11.heap.size := fun h => hne1 h.symm
  obtain ⟨W9, hW9⟩ : ∃ W', (((((V14.setCell ⟨w11.heap.size, 0, none⟩ (.int .i64 d.item.k)).setCell ⟨w11.heap.size, 1, none⟩ (.string d.item.t)).setCell ⟨w11.heap.size, 2, none⟩ (.slice y1 d.item.l.length z1)).setCell ⟨w11.heap.size, 3, none⟩ (.slice y2 d.item.p.length z2)).setCell ⟨w11.heap.size, 4, none⟩ (.slice y3 d.item.s.length z3)).drew = W' := ⟨_, rfl⟩
  have GN : W9.heap[w11.heap.size]? = some (.cells #[.int .i64 d.item.k, .string d.item.t, .slice y1 d.item.l.length z1, .slice y2 d.item.p.length z2, .slice y3 d.item.s.length z3] 28 (0, 0)) := by
    rw [← hW9]
    show (((((V14.setCell ⟨w11.heap.size, 0, none⟩ (.int .i64 d.item.k)).setCell ⟨w11.heap.size, 1, none⟩ (.string d.item.t)).setCell ⟨w11.heap.size, 2, none⟩ (.slice y1 d.item.l.length z1)).setCell ⟨w11.heap.size, 3, none⟩ (.slice y2 d.item.p.length z2)).setCell ⟨w11.heap.size, 4, none⟩ (.slice y3 d.item.s.length z3)).heap[w11.heap.size]? = _
    rw [(setCell_heapY (setCell_heapY (setCell_heapY (setCell_heapY (setCell_heapY gh 0 _) 1 _) 2 _) 3 _) 4 _)]; rfl
  have CN : Below w11.heap.size w11 W9 := hW9 ▸ ((((((btY (btY AV12 bw13) AV14).setCell (p := ⟨w11.heap.size, 0, none⟩) (Nat.le_refl _) _).setCell (p := ⟨w11.heap.size, 1, none⟩) (Nat.le_refl _) _).setCell (p := ⟨w11.heap.size, 2, none⟩) (Nat.le_refl _) _).setCell (p := ⟨w11.heap.size, 3, none⟩) (Nat.le_refl _) _).setCell (p := ⟨w11.heap.size, 4, none⟩) (Nat.le_refl _) _).drew
  have KN : Kept (one (w11.heap.size)) V14 W9 := hW9 ▸ ((((((Kept.refl (one (w11.heap.size)) V14).set1 0 _).set1 1 _).set1 2 _).set1 3 _).set1 4 _).drew
  have BY9 := (KN.block _ (Array.getElem?_eq_some_iff.1 BY).1 (by simp only [one]; omega)).trans BY
  have HW9 := hide hW9
  have HKN := hide KN
  have HCN := hide CN
  have HGN := hide GN
  have HBY9 := hide BY9
  clear hW9 KN CN GN BY9
  go_wp2_with fail
  go_big_region
  rw [HW9.out]
  have CN := HCN.out
  have GN := HGN.out
  have BY9 := HBY9.out
  clear yc0 yc1 yc2 yc3 yc4 yc5 yc6 gh g0 g1 g2 g3 g4 gf0 gf1 gf2 gf3 gf4 HW9 HKN HCN HGN HBY9 hne1 hne2 hV14
  have yd1 : W9.cell? ⟨w13.heap.size, 1, none⟩ = some (.int .i64 d.item.k) := by simp [World.cell?, BY9]
  have cW9N := btY cw11 CN
  go_wp2_with fail
  refine (HKO W9 (hs.below cW9N)).mono ?_
  rintro e w15 ⟨⟨al, cl, rfl, TL⟩, bw15⟩
  clear yd1
  have cw15 := btY cW9N bw15
  go_wp2_with fail
  refine (HSO w15 (hs.below cw15)).mono ?_
  rintro e w16 ⟨⟨ar, cr, rfl, ST⟩, bw16⟩
  go_wp2_with fail
  refine (HBG w16).mono ?_
  rintro e w17 ⟨rfl, bw17⟩
  have cw16 := btY cw15 bw16
  have cw17 := btY cw16 bw17
  go_wp2_with fail
  refine (HCK w17 (hs.below cw17)).mono ?_
  rintro e w18 ⟨rfl, bw18⟩
  have cw18 := btY cw17 bw18
  go_wp2_with fail
  refine (HCS w18 (hs.below cw18)).mono ?_
  rintro e w19 ⟨rfl, bw19⟩
  have oh := ((btY (btY (btY (btY (btY (btY (btY (btY (btY (btY (btY (btY (btY (btY bw3 bw4) bw5) bw6) bw7) bw8) bw9) bw10) bw11) CN) bw15) bw16) bw17) bw18) bw19).block _ (Array.getElem?_eq_some_iff.1 BO).1).trans BO
  have o0 : w19.cell? ⟨w1.heap.size, 0, none⟩ = some (.int .i64 o.k) := by simp [World.cell?, oh]
  have o1 : w19.cell? ⟨w1.heap.size, 1, none⟩ = some (.string o.t) := by simp [World.cell?, oh]
  have o2 : w19.cell? ⟨w1.heap.size, 2, none⟩ = some (.slice b1 o.l.length e1) := by simp [World.cell?, oh]
  have o3 : w19.cell? ⟨w1.heap.size, 3, none⟩ = some (.slice b2 o.p.length e2) := by simp [World.cell?, oh]
  have o4 : w19.cell? ⟨w1.heap.size, 4, none⟩ = some (.slice b3 o.s.length e3) := by simp [World.cell?, oh]
  have gh := ((btY (btY (btY (btY bw15 bw16) bw17) bw18) bw19).block _ (Array.getElem?_eq_some_iff.1 GN).1).trans GN
  have g0 : w19.cell? ⟨w11.heap.size, 0, none⟩ = some (.int .i64 d.item.k) := by simp [World.cell?, gh]
  have g1 : w19.cell? ⟨w11.heap.size, 1, none⟩ = some (.string d.item.t) := by simp [World.cell?, gh]
  have g2 : w19.cell? ⟨w11.heap.size, 2, none⟩ = some (.slice y1 d.item.l.length z1) := by simp [World.cell?, gh]
  have g3 : w19.cell? ⟨w11.heap.size, 3, none⟩ = some (.slice y2 d.item.p.length z2) := by simp [World.cell?, gh]
  have g4 : w19.cell? ⟨w11.heap.size, 4, none⟩ = some (.slice y3 d.item.s.length z3) := by simp [World.cell?, gh]
  go_wp2_with fail
  refine (HOO _ _ w19 (IO.below (btY (btY (btY (btY (btY (btY (btY (btY (btY (btY (btY (btY (btY (btY (btY AV2 bw3) bw4) bw5) bw6) bw7) bw8) bw9) bw10) bw11) CN) bw15) bw16) bw17) bw18) bw19)) (hid.below (btY (btY (btY (btY (btY CN bw15) bw16) bw17) bw18) bw19))).mono ?_
  rintro e w20 ⟨rfl, bw20⟩
  clear oh o0 o1 o2 o3 o4 gh g0 g1 g2 g3 g4
  go_wp2_with fail
  refine (HSI1 ao co w20).mono ?_
  rintro e w21 ⟨rfl, bw21⟩
  go_wp2_with fail
  refine (HTT ak ck al cl w21 (TK.below (btY (btY (btY (btY (btY (btY (btY (btY (btY (btY (btY (btY (btY bw6 bw7) bw8) bw9) bw10) bw11) CN) bw15) bw16) bw17) bw18) bw19) bw20) bw21)) (TL.below (btY (btY (btY (btY (btY bw16 bw17) bw18) bw19) bw20) bw21))).mono ?_
  rintro e w22 ⟨rfl, bw22⟩
  go_wp2_with fail
  refine (HSI2 aq cq ar cr w22 (SQ.below (btY (btY (btY (btY (btY (btY (btY (btY (btY (btY (btY (btY (btY bw7 bw8) bw9) bw10) bw11) CN) bw15) bw16) bw17) bw18) bw19) bw20) bw21) bw22)) (ST.below (btY (btY (btY (btY (btY bw17 bw18) bw19) bw20) bw21) bw22))).mono ?_
  rintro e w23 ⟨rfl, bw23⟩
  have cw19 := btY cw18 bw19
  have cw20 := btY cw19 bw20
  have cw21 := btY cw20 bw21
  have cw22 := btY cw21 bw22
  have cw23 := btY cw22 bw23
  go_wp2_with fail
  refine bodyPost_ret (v := .bool true) (by simp [results, Tryz.results3, go_sem]) rfl ⟨rfl, cw23⟩
end Go.Proofs.YtcidoodaiimhfaaGreat
