/- WALKS of SpaceTells: where the space or the key is wrong. -/
import Derived.Test.YtcidoodaiimhfaaGreatYTw
import Derived.BigRegion
import Derived.Handy
namespace Go.Proofs.YtcidoodaiimhfaaGreat
open Go.RowKit

set_option maxRecDepth 100000 in
set_option maxHeartbeats 4000000 in
theorem tl_u (a : Option Addr) (c : Nat) (s : List Ent) (now : Int) (key : ByteArray) (x : Itm) (til : Int) (p : ByteArray) (w : World) (p1 : Option Addr) (q1 : Nat) (p2 : Option Addr) (q2 : Nat) (p3 : Option Addr) (q3 : Nat) (o : Itm) (CS : Int) (EV : Int) (hs : SpaceAt w a s) (hx : ItemIs w (.agg #[.int .i64 x.k, .string x.t, .slice p1 x.l.length q1, .slice p2 x.p.length q2, .slice p3 x.s.length q3]) x)
    (HG : CGx1 a c s now key o EV)
    (HP : CPx3 a c s now key x til p1 q1 p2 q2 p3 q3 EV)
    (HU : CUx2 a c s now key EV)
    (HK : CKx2 a c s now p EV)
    (HS : CSx1 a c s now EV)
    (HCA : CCAx1 a c s now key EV)
    (HCB : CCBx1 a c s now EV)
    (HBG : CBGx0 )
    (HCK : CCKx0 a c s CS)
    (HCS : CCSx0 a c s CS)
    (HOZ : COZx0 o)
    (HSI1 : CSI1x3 EV)
    (HTT : CTTx0 )
    (HSI2 : CSI2x1 EV)
    (hv1 : (EV == 0) = false) :
    Calls Tryz.prog 3 #[.slice a s.length c, .int .i64 now, .string key, .agg #[.int .i64 x.k, .string x.t, .slice p1 x.l.length q1, .slice p2 x.p.length q2, .slice p3 x.s.length q3], .int .i64 til, .string p] w fun e w' => e = .returned (.bool true) ∧ Below w.heap.size w w' := by
  obtain ⟨V0, hV0, AV0, BX⟩ := newbox w (.cells #[.int .i64 x.k, .string x.t, .slice p1 x.l.length q1, .slice p2 x.p.length q2, .slice p3 x.s.length q3] 28)
  go_enter Tryz.func3, Tryz.ntmps3
  go_wp2_with fail
  refine (HG V0 (hs.below AV0)).mono ?_
  rintro e w1 ⟨⟨b1, e1, b2, e2, b3, e3, rfl, IO⟩, bw1⟩
  clear hV0
  obtain ⟨V2, hV2, AV2, BO⟩ := newbox w1 (.cells #[.int .i64 o.k, .string o.t, .slice b1 o.l.length e1, .slice b2 o.p.length e2, .slice b3 o.s.length e3] 28)
  have xh := ((btY bw1 AV2).block _ (Array.getElem?_eq_some_iff.1 BX).1).trans BX
  have x0 : V2.cell? ⟨w.heap.size, 0, none⟩ = some (.int .i64 x.k) := by simp [World.cell?, xh]
  have x1 : V2.cell? ⟨w.heap.size, 1, none⟩ = some (.string x.t) := by simp [World.cell?, xh]
  have x2 : V2.cell? ⟨w.heap.size, 2, none⟩ = some (.slice p1 x.l.length q1) := by simp [World.cell?, xh]
  have x3 : V2.cell? ⟨w.heap.size, 3, none⟩ = some (.slice p2 x.p.length q2) := by simp [World.cell?, xh]
  have x4 : V2.cell? ⟨w.heap.size, 4, none⟩ = some (.slice p3 x.s.length q3) := by simp [World.cell?, xh]
  have cw1 := btY AV0 bw1
  have cV2 := btY cw1 AV2
  go_wp2_with fail
  refine (HP V2 (hs.below cV2) (hx.below cV2)).mono ?_
  rintro e w3 ⟨⟨ao, co, rfl⟩, bw3⟩
  clear hV2 xh x0 x1 x2 x3 x4
  have cw3 := btY cV2 bw3
  go_wp2_with fail
  refine (HU w3 (hs.below cw3)).mono ?_
  rintro e w4 ⟨rfl, bw4⟩
  have cw4 := btY cw3 bw4
  go_wp2_with fail
  refine (HK w4 (hs.below cw4)).mono ?_
  rintro e w5 ⟨⟨ak, ck, rfl⟩, bw5⟩
  have cw5 := btY cw4 bw5
  go_wp2_with fail
  refine (HS w5 (hs.below cw5)).mono ?_
  rintro e w6 ⟨⟨aq, cq, rfl⟩, bw6⟩
  have cw6 := btY cw5 bw6
  go_wp2_with fail
  refine (HCA w6 (hs.below cw6)).mono ?_
  rintro e w7 ⟨rfl, bw7⟩
  have cw7 := btY cw6 bw7
  go_wp2_with fail
  refine (HCB w7 (hs.below cw7)).mono ?_
  rintro e w8 ⟨rfl, bw8⟩
  obtain ⟨V9, hV9, AV9, BG⟩ := newbox w8 (.cells #[.int .i64 0, .string ⟨#[]⟩, .slice none 0 0, .slice none 0 0, .slice none 0 0] 28)
  go_wp2_with fail
  refine (HBG V9).mono ?_
  rintro e w10 ⟨rfl, bw10⟩
  clear hV9
  have cw8 := btY cw7 bw8
  have cV9 := btY cw8 AV9
  have cw10 := btY cV9 bw10
  go_wp2_with fail
  refine (HCK w10 (hs.below cw10)).mono ?_
  rintro e w11 ⟨rfl, bw11⟩
  have cw11 := btY cw10 bw11
  go_wp2_with fail
  refine (HCS w11 (hs.below cw11)).mono ?_
  rintro e w12 ⟨rfl, bw12⟩
  have oh := ((btY (btY (btY (btY (btY (btY (btY (btY (btY bw3 bw4) bw5) bw6) bw7) bw8) AV9) bw10) bw11) bw12).block _ (Array.getElem?_eq_some_iff.1 BO).1).trans BO
  have o0 : w12.cell? ⟨w1.heap.size, 0, none⟩ = some (.int .i64 o.k) := by simp [World.cell?, oh]
  have o1 : w12.cell? ⟨w1.heap.size, 1, none⟩ = some (.string o.t) := by simp [World.cell?, oh]
  have o2 : w12.cell? ⟨w1.heap.size, 2, none⟩ = some (.slice b1 o.l.length e1) := by simp [World.cell?, oh]
  have o3 : w12.cell? ⟨w1.heap.size, 3, none⟩ = some (.slice b2 o.p.length e2) := by simp [World.cell?, oh]
  have o4 : w12.cell? ⟨w1.heap.size, 4, none⟩ = some (.slice b3 o.s.length e3) := by simp [World.cell?, oh]
  have gh := ((btY (btY bw10 bw11) bw12).block _ (Array.getElem?_eq_some_iff.1 BG).1).trans BG
  have g0 : w12.cell? ⟨w8.heap.size, 0, none⟩ = some (.int .i64 0) := by simp [World.cell?, gh]
  have g1 : w12.cell? ⟨w8.heap.size, 1, none⟩ = some (.string ⟨#[]⟩) := by simp [World.cell?, gh]
  have g2 : w12.cell? ⟨w8.heap.size, 2, none⟩ = some (.slice none 0 0) := by simp [World.cell?, gh]
  have g3 : w12.cell? ⟨w8.heap.size, 3, none⟩ = some (.slice none 0 0) := by simp [World.cell?, gh]
  have g4 : w12.cell? ⟨w8.heap.size, 4, none⟩ = some (.slice none 0 0) := by simp [World.cell?, gh]
  go_wp2_with fail
  refine (HOZ _ w12 (IO.below (btY (btY (btY (btY (btY (btY (btY (btY (btY (btY AV2 bw3) bw4) bw5) bw6) bw7) bw8) AV9) bw10) bw11) bw12))).mono ?_
  rintro e w13 ⟨rfl, bw13⟩
  clear oh o0 o1 o2 o3 o4 gh g0 g1 g2 g3 g4
  go_wp2_with fail
  refine (HSI1 ao co w13).mono ?_
  rintro e w14 ⟨rfl, bw14⟩
  go_wp2_with fail
  refine (HTT ak ck w14).mono ?_
  rintro e w15 ⟨rfl, bw15⟩
  go_wp2_with fail
  refine (HSI2 aq cq w15).mono ?_
  rintro e w16 ⟨rfl, bw16⟩
  have cw12 := btY cw11 bw12
  have cw13 := btY cw12 bw13
  have cw14 := btY cw13 bw14
  have cw15 := btY cw14 bw15
  have cw16 := btY cw15 bw16
  go_wp2_with fail
  refine bodyPost_ret (v := .bool true) (by simp [results, Tryz.results3, go_sem]) rfl ⟨rfl, cw16⟩
set_option maxRecDepth 100000 in
set_option maxHeartbeats 4000000 in
theorem tl_v0 (a : Option Addr) (c : Nat) (s : List Ent) (now : Int) (key : ByteArray) (x : Itm) (til : Int) (p : ByteArray) (w : World) (p1 : Option Addr) (q1 : Nat) (p2 : Option Addr) (q2 : Nat) (p3 : Option Addr) (q3 : Nat) (o : Itm) (CS : Int) (EV : Int) (Q : List Ent) (EG : Int) (hs : SpaceAt w a s) (hx : ItemIs w (.agg #[.int .i64 x.k, .string x.t, .slice p1 x.l.length q1, .slice p2 x.p.length q2, .slice p3 x.s.length q3]) x)
    (HG : CGx1 a c s now key o EV)
    (HP : CPx3 a c s now key x til p1 q1 p2 q2 p3 q3 EV)
    (HU : CUx2 a c s now key EV)
    (HK : CKx0 a c s now p EG)
    (HS : CSx0 a c s now Q)
    (HCA : CCAx1 a c s now key EV)
    (HCB : CCBx0 a c s now)
    (HCG : CCGx0 p EG)
    (HSO : CSOx0 a c s now Q)
    (HBG : CBGx0 )
    (HCK : CCKx0 a c s CS)
    (HCS : CCSx0 a c s CS)
    (HOZ : COZx0 o)
    (HSI1 : CSI1x3 EV)
    (HTT : CTTx0 )
    (HSI2 : CSI2x0 Q)
    (hv1 : (EV == 0) = false) (hsn : s.length ≤ 16) (hqn : Q.length ≤ 16) (hg1 : (EG == 0) = false) :
    Calls Tryz.prog 3 #[.slice a s.length c, .int .i64 now, .string key, .agg #[.int .i64 x.k, .string x.t, .slice p1 x.l.length q1, .slice p2 x.p.length q2, .slice p3 x.s.length q3], .int .i64 til, .string p] w fun e w' => e = .returned (.bool true) ∧ Below w.heap.size w w' := by
  obtain ⟨V0, hV0, AV0, BX⟩ := newbox w (.cells #[.int .i64 x.k, .string x.t, .slice p1 x.l.length q1, .slice p2 x.p.length q2, .slice p3 x.s.length q3] 28)
  go_enter Tryz.func3, Tryz.ntmps3
  go_wp2_with fail
  refine (HG V0 (hs.below AV0)).mono ?_
  rintro e w1 ⟨⟨b1, e1, b2, e2, b3, e3, rfl, IO⟩, bw1⟩
  clear hV0
  obtain ⟨V2, hV2, AV2, BO⟩ := newbox w1 (.cells #[.int .i64 o.k, .string o.t, .slice b1 o.l.length e1, .slice b2 o.p.length e2, .slice b3 o.s.length e3] 28)
  have xh := ((btY bw1 AV2).block _ (Array.getElem?_eq_some_iff.1 BX).1).trans BX
  have x0 : V2.cell? ⟨w.heap.size, 0, none⟩ = some (.int .i64 x.k) := by simp [World.cell?, xh]
  have x1 : V2.cell? ⟨w.heap.size, 1, none⟩ = some (.string x.t) := by simp [World.cell?, xh]
  have x2 : V2.cell? ⟨w.heap.size, 2, none⟩ = some (.slice p1 x.l.length q1) := by simp [World.cell?, xh]
  have x3 : V2.cell? ⟨w.heap.size, 3, none⟩ = some (.slice p2 x.p.length q2) := by simp [World.cell?, xh]
  have x4 : V2.cell? ⟨w.heap.size, 4, none⟩ = some (.slice p3 x.s.length q3) := by simp [World.cell?, xh]
  have cw1 := btY AV0 bw1
  have cV2 := btY cw1 AV2
  go_wp2_with fail
  refine (HP V2 (hs.below cV2) (hx.below cV2)).mono ?_
  rintro e w3 ⟨⟨ao, co, rfl⟩, bw3⟩
  clear hV2 xh x0 x1 x2 x3 x4
  have cw3 := btY cV2 bw3
  go_wp2_with fail
  refine (HU w3 (hs.below cw3)).mono ?_
  rintro e w4 ⟨rfl, bw4⟩
  have cw4 := btY cw3 bw4
  go_wp2_with fail
  refine (HK w4 (hs.below cw4)).mono ?_
  rintro e w5 ⟨⟨ak, ck, rfl⟩, bw5⟩
  have cw5 := btY cw4 bw5
  go_wp2_with fail
  refine (HS w5 (hs.below cw5)).mono ?_
  rintro e w6 ⟨⟨aq, cq, rfl, SQ⟩, bw6⟩
  have cw6 := btY cw5 bw6
  go_wp2_with fail
  refine (HCA w6 (hs.below cw6)).mono ?_
  rintro e w7 ⟨rfl, bw7⟩
  have cw7 := btY cw6 bw7
  go_wp2_with fail
  refine (HCB w7 (hs.below cw7)).mono ?_
  rintro e w8 ⟨rfl, bw8⟩
  go_wp2_with fail
  refine (HCG w8).mono ?_
  rintro e w9 ⟨rfl, bw9⟩
  obtain ⟨V10, hV10, AV10, BG⟩ := newbox w9 (.cells #[.int .i64 0, .string ⟨#[]⟩, .slice none 0 0, .slice none 0 0, .slice none 0 0] 28)
  have cw8 := btY cw7 bw8
  have cw9 := btY cw8 bw9
  have cV10 := btY cw9 AV10
  go_wp2_with fail
  refine (HSO V10 (hs.below cV10)).mono ?_
  rintro e w11 ⟨⟨ar, cr, rfl, ST⟩, bw11⟩
  clear hV10
  go_wp2_with fail
  refine (HBG w11).mono ?_
  rintro e w12 ⟨rfl, bw12⟩
  have cw11 := btY cV10 bw11
  have cw12 := btY cw11 bw12
  go_wp2_with fail
  refine (HCK w12 (hs.below cw12)).mono ?_
  rintro e w13 ⟨rfl, bw13⟩
  have cw13 := btY cw12 bw13
  go_wp2_with fail
  refine (HCS w13 (hs.below cw13)).mono ?_
  rintro e w14 ⟨rfl, bw14⟩
  have oh := ((btY (btY (btY (btY (btY (btY (btY (btY (btY (btY (btY bw3 bw4) bw5) bw6) bw7) bw8) bw9) AV10) bw11) bw12) bw13) bw14).block _ (Array.getElem?_eq_some_iff.1 BO).1).trans BO
  have o0 : w14.cell? ⟨w1.heap.size, 0, none⟩ = some (.int .i64 o.k) := by simp [World.cell?, oh]
  have o1 : w14.cell? ⟨w1.heap.size, 1, none⟩ = some (.string o.t) := by simp [World.cell?, oh]
  have o2 : w14.cell? ⟨w1.heap.size, 2, none⟩ = some (.slice b1 o.l.length e1) := by simp [World.cell?, oh]
  have o3 : w14.cell? ⟨w1.heap.size, 3, none⟩ = some (.slice b2 o.p.length e2) := by simp [World.cell?, oh]
  have o4 : w14.cell? ⟨w1.heap.size, 4, none⟩ = some (.slice b3 o.s.length e3) := by simp [World.cell?, oh]
  have gh := ((btY (btY (btY bw11 bw12) bw13) bw14).block _ (Array.getElem?_eq_some_iff.1 BG).1).trans BG
  have g0 : w14.cell? ⟨w9.heap.size, 0, none⟩ = some (.int .i64 0) := by simp [World.cell?, gh]
  have g1 : w14.cell? ⟨w9.heap.size, 1, none⟩ = some (.string ⟨#[]⟩) := by simp [World.cell?, gh]
  have g2 : w14.cell? ⟨w9.heap.size, 2, none⟩ = some (.slice none 0 0) := by simp [World.cell?, gh]
  have g3 : w14.cell? ⟨w9.heap.size, 3, none⟩ = some (.slice none 0 0) := by simp [World.cell?, gh]
  have g4 : w14.cell? ⟨w9.heap.size, 4, none⟩ = some (.slice none 0 0) := by simp [World.cell?, gh]
  go_wp2_with fail
  refine (HOZ _ w14 (IO.below (btY (btY (btY (btY (btY (btY (btY (btY (btY (btY (btY (btY AV2 bw3) bw4) bw5) bw6) bw7) bw8) bw9) AV10) bw11) bw12) bw13) bw14))).mono ?_
  rintro e w15 ⟨rfl, bw15⟩
  clear oh o0 o1 o2 o3 o4 gh g0 g1 g2 g3 g4
  go_wp2_with fail
  refine (HSI1 ao co w15).mono ?_
  rintro e w16 ⟨rfl, bw16⟩
  go_wp2_with fail
  refine (HTT ak ck w16).mono ?_
  rintro e w17 ⟨rfl, bw17⟩
  go_wp2_with fail
  refine (HSI2 aq cq ar cr w17 (SQ.below (btY (btY (btY (btY (btY (btY (btY (btY (btY (btY bw7 bw8) bw9) AV10) bw11) bw12) bw13) bw14) bw15) bw16) bw17)) (ST.below (btY (btY (btY (btY (btY bw12 bw13) bw14) bw15) bw16) bw17))).mono ?_
  rintro e w18 ⟨rfl, bw18⟩
  have cw14 := btY cw13 bw14
  have cw15 := btY cw14 bw15
  have cw16 := btY cw15 bw16
  have cw17 := btY cw16 bw17
  have cw18 := btY cw17 bw18
  go_wp2_with fail
  refine bodyPost_ret (v := .bool true) (by simp [results, Tryz.results3, go_sem]) rfl ⟨rfl, cw18⟩
set_option maxRecDepth 100000 in
set_option maxHeartbeats 4000000 in
theorem tl_v1 (a : Option Addr) (c : Nat) (s : List Ent) (now : Int) (key : ByteArray) (x : Itm) (til : Int) (p : ByteArray) (w : World) (p1 : Option Addr) (q1 : Nat) (p2 : Option Addr) (q2 : Nat) (p3 : Option Addr) (q3 : Nat) (o : Itm) (CS : Int) (EV : Int) (Q : List Ent) (L : List ByteArray) (hs : SpaceAt w a s) (hx : ItemIs w (.agg #[.int .i64 x.k, .string x.t, .slice p1 x.l.length q1, .slice p2 x.p.length q2, .slice p3 x.s.length q3]) x)
    (HG : CGx1 a c s now key o EV)
    (HP : CPx3 a c s now key x til p1 q1 p2 q2 p3 q3 EV)
    (HU : CUx2 a c s now key EV)
    (HK : CKx1 a c s now p L)
    (HS : CSx0 a c s now Q)
    (HCA : CCAx1 a c s now key EV)
    (HCB : CCBx0 a c s now)
    (HCG : CCGx1 p)
    (HKO : CKOx0 a c s now p L)
    (HSO : CSOx0 a c s now Q)
    (HBG : CBGx0 )
    (HCK : CCKx0 a c s CS)
    (HCS : CCSx0 a c s CS)
    (HOZ : COZx0 o)
    (HSI1 : CSI1x3 EV)
    (HTT : CTTx1 L)
    (HSI2 : CSI2x0 Q)
    (hv1 : (EV == 0) = false) (hsn : s.length ≤ 16) (hqn : Q.length ≤ 16) :
    Calls Tryz.prog 3 #[.slice a s.length c, .int .i64 now, .string key, .agg #[.int .i64 x.k, .string x.t, .slice p1 x.l.length q1, .slice p2 x.p.length q2, .slice p3 x.s.length q3], .int .i64 til, .string p] w fun e w' => e = .returned (.bool true) ∧ Below w.heap.size w w' := by
  obtain ⟨V0, hV0, AV0, BX⟩ := newbox w (.cells #[.int .i64 x.k, .string x.t, .slice p1 x.l.length q1, .slice p2 x.p.length q2, .slice p3 x.s.length q3] 28)
  go_enter Tryz.func3, Tryz.ntmps3
  go_wp2_with fail
  refine (HG V0 (hs.below AV0)).mono ?_
  rintro e w1 ⟨⟨b1, e1, b2, e2, b3, e3, rfl, IO⟩, bw1⟩
  clear hV0
  obtain ⟨V2, hV2, AV2, BO⟩ := newbox w1 (.cells #[.int .i64 o.k, .string o.t, .slice b1 o.l.length e1, .slice b2 o.p.length e2, .slice b3 o.s.length e3] 28)
  have xh := ((btY bw1 AV2).block _ (Array.getElem?_eq_some_iff.1 BX).1).trans BX
  have x0 : V2.cell? ⟨w.heap.size, 0, none⟩ = some (.int .i64 x.k) := by simp [World.cell?, xh]
  have x1 : V2.cell? ⟨w.heap.size, 1, none⟩ = some (.string x.t) := by simp [World.cell?, xh]
  have x2 : V2.cell? ⟨w.heap.size, 2, none⟩ = some (.slice p1 x.l.length q1) := by simp [World.cell?, xh]
  have x3 : V2.cell? ⟨w.heap.size, 3, none⟩ = some (.slice p2 x.p.length q2) := by simp [World.cell?, xh]
  have x4 : V2.cell? ⟨w.heap.size, 4, none⟩ = some (.slice p3 x.s.length q3) := by simp [World.cell?, xh]
  have cw1 := btY AV0 bw1
  have cV2 := btY cw1 AV2
  go_wp2_with fail
  refine (HP V2 (hs.below cV2) (hx.below cV2)).mono ?_
  rintro e w3 ⟨⟨ao, co, rfl⟩, bw3⟩
  clear hV2 xh x0 x1 x2 x3 x4
  have cw3 := btY cV2 bw3
  go_wp2_with fail
  refine (HU w3 (hs.below cw3)).mono ?_
  rintro e w4 ⟨rfl, bw4⟩
  have cw4 := btY cw3 bw4
  go_wp2_with fail
  refine (HK w4 (hs.below cw4)).mono ?_
  rintro e w5 ⟨⟨ak, ck, rfl, TK⟩, bw5⟩
  have cw5 := btY cw4 bw5
  go_wp2_with fail
  refine (HS w5 (hs.below cw5)).mono ?_
  rintro e w6 ⟨⟨aq, cq, rfl, SQ⟩, bw6⟩
  have cw6 := btY cw5 bw6
  go_wp2_with fail
  refine (HCA w6 (hs.below cw6)).mono ?_
  rintro e w7 ⟨rfl, bw7⟩
  have cw7 := btY cw6 bw7
  go_wp2_with fail
  refine (HCB w7 (hs.below cw7)).mono ?_
  rintro e w8 ⟨rfl, bw8⟩
  go_wp2_with fail
  refine (HCG w8).mono ?_
  rintro e w9 ⟨rfl, bw9⟩
  obtain ⟨V10, hV10, AV10, BG⟩ := newbox w9 (.cells #[.int .i64 0, .string ⟨#[]⟩, .slice none 0 0, .slice none 0 0, .slice none 0 0] 28)
  have cw8 := btY cw7 bw8
  have cw9 := btY cw8 bw9
  have cV10 := btY cw9 AV10
  go_wp2_with fail
  refine (HKO V10 (hs.below cV10)).mono ?_
  rintro e w11 ⟨⟨al, cl, rfl, TL⟩, bw11⟩
  clear hV10
  have cw11 := btY cV10 bw11
  go_wp2_with fail
  refine (HSO w11 (hs.below cw11)).mono ?_
  rintro e w12 ⟨⟨ar, cr, rfl, ST⟩, bw12⟩
  go_wp2_with fail
  refine (HBG w12).mono ?_
  rintro e w13 ⟨rfl, bw13⟩
  have cw12 := btY cw11 bw12
  have cw13 := btY cw12 bw13
  go_wp2_with fail
  refine (HCK w13 (hs.below cw13)).mono ?_
  rintro e w14 ⟨rfl, bw14⟩
  have cw14 := btY cw13 bw14
  go_wp2_with fail
  refine (HCS w14 (hs.below cw14)).mono ?_
  rintro e w15 ⟨rfl, bw15⟩
  have oh := ((btY (btY (btY (btY (btY (btY (btY (btY (btY (btY (btY (btY bw3 bw4) bw5) bw6) bw7) bw8) bw9) AV10) bw11) bw12) bw13) bw14) bw15).block _ (Array.getElem?_eq_some_iff.1 BO).1).trans BO
  have o0 : w15.cell? ⟨w1.heap.size, 0, none⟩ = some (.int .i64 o.k) := by simp [World.cell?, oh]
  have o1 : w15.cell? ⟨w1.heap.size, 1, none⟩ = some (.string o.t) := by simp [World.cell?, oh]
  have o2 : w15.cell? ⟨w1.heap.size, 2, none⟩ = some (.slice b1 o.l.length e1) := by simp [World.cell?, oh]
  have o3 : w15.cell? ⟨w1.heap.size, 3, none⟩ = some (.slice b2 o.p.length e2) := by simp [World.cell?, oh]
  have o4 : w15.cell? ⟨w1.heap.size, 4, none⟩ = some (.slice b3 o.s.length e3) := by simp [World.cell?, oh]
  have gh := ((btY (btY (btY (btY bw11 bw12) bw13) bw14) bw15).block _ (Array.getElem?_eq_some_iff.1 BG).1).trans BG
  have g0 : w15.cell? ⟨w9.heap.size, 0, none⟩ = some (.int .i64 0) := by simp [World.cell?, gh]
  have g1 : w15.cell? ⟨w9.heap.size, 1, none⟩ = some (.string ⟨#[]⟩) := by simp [World.cell?, gh]
  have g2 : w15.cell? ⟨w9.heap.size, 2, none⟩ = some (.slice none 0 0) := by simp [World.cell?, gh]
  have g3 : w15.cell? ⟨w9.heap.size, 3, none⟩ = some (.slice none 0 0) := by simp [World.cell?, gh]
  have g4 : w15.cell? ⟨w9.heap.size, 4, none⟩ = some (.slice none 0 0) := by simp [World.cell?, gh]
  go_wp2_with fail
  refine (HOZ _ w15 (IO.below (btY (btY (btY (btY (btY (btY (btY (btY (btY (btY (btY (btY (btY AV2 bw3) bw4) bw5) bw6) bw7) bw8) bw9) AV10) bw11) bw12) bw13) bw14) bw15))).mono ?_
  rintro e w16 ⟨rfl, bw16⟩
  clear oh o0 o1 o2 o3 o4 gh g0 g1 g2 g3 g4
  go_wp2_with fail
  refine (HSI1 ao co w16).mono ?_
  rintro e w17 ⟨rfl, bw17⟩
  go_wp2_with fail
  refine (HTT ak ck al cl w17 (TK.below (btY (btY (btY (btY (btY (btY (btY (btY (btY (btY (btY bw6 bw7) bw8) bw9) AV10) bw11) bw12) bw13) bw14) bw15) bw16) bw17)) (TL.below (btY (btY (btY (btY (btY bw12 bw13) bw14) bw15) bw16) bw17))).mono ?_
  rintro e w18 ⟨rfl, bw18⟩
  go_wp2_with fail
  refine (HSI2 aq cq ar cr w18 (SQ.below (btY (btY (btY (btY (btY (btY (btY (btY (btY (btY (btY bw7 bw8) bw9) AV10) bw11) bw12) bw13) bw14) bw15) bw16) bw17) bw18)) (ST.below (btY (btY (btY (btY (btY bw13 bw14) bw15) bw16) bw17) bw18))).mono ?_
  rintro e w19 ⟨rfl, bw19⟩
  have cw15 := btY cw14 bw15
  have cw16 := btY cw15 bw16
  have cw17 := btY cw16 bw17
  have cw18 := btY cw17 bw18
  have cw19 := btY cw18 bw19
  go_wp2_with fail
  refine bodyPost_ret (v := .bool true) (by simp [results, Tryz.results3, go_sem]) rfl ⟨rfl, cw19⟩
end Go.Proofs.YtcidoodaiimhfaaGreat
