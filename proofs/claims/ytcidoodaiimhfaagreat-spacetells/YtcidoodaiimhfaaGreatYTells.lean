/- WALK of SpaceTells. -/
import Derived.Test.YtcidoodaiimhfaaGreatYTv
import Derived.Test.YtcidoodaiimhfaaGreatYTnok0
import Derived.Test.YtcidoodaiimhfaaGreatYTnok1
import Derived.Test.YtcidoodaiimhfaaGreatYTgok0
import Derived.Test.YtcidoodaiimhfaaGreatYTgok1
import Derived.Test.YtcidoodaiimhfaaGreatYTne0
import Derived.Test.YtcidoodaiimhfaaGreatYTne1
import Derived.Test.YtcidoodaiimhfaaGreatYTge0
import Derived.Test.YtcidoodaiimhfaaGreatYTge1
import Derived.Test.YtcidoodaiimhfaaGreatYTc
import Derived.BigRegion
import Derived.Handy
namespace Go.Proofs.YtcidoodaiimhfaaGreat
open Go.RowKit

theorem put_bad (a : Option Addr) (c : Nat) (s : List Ent) (now : Int) (key : ByteArray) (v : Value) (x : Itm) (til : Int) (W : World) (hs : SpaceAt W a s) (hn : s.length ≤ 281474976710656) (hx : ItemIs W v x) (E : Int) (hE : putE s now key x til = E) (h0 : E ≠ 0) :
    Calls Tryz.prog 7 #[.slice a s.length c, .int .i64 now, .string key, v, .int .i64 til] W fun e w' => (∃ ao co, e = .returned (.tuple #[.slice ao 0 co, .int .i64 E])) ∧ Below W.heap.size W w' := by
  refine (put_tells a c s now key v x til W hs hn hx).mono ?_
  rintro e w' ⟨⟨ao, co, l, rfl, hm, ho⟩, hb⟩
  rw [putS_err (fun h1 => h0 (hE.symm.trans h1)), hE]
  exact ⟨⟨ao, co, rfl⟩, hb⟩
theorem put_good (a : Option Addr) (c : Nat) (s : List Ent) (now : Int) (key : ByteArray) (v : Value) (x : Itm) (til : Int) (W : World) (hs : SpaceAt W a s) (hn : s.length ≤ 281474976710656) (hx : ItemIs W v x) (P : List Ent) (E : Int) (hP : putS s now key x til = P) (hE : putE s now key x til = E) :
    Calls Tryz.prog 7 #[.slice a s.length c, .int .i64 now, .string key, v, .int .i64 til] W fun e w' => (∃ ao co, e = .returned (.tuple #[.slice ao P.length co, .int .i64 E]) ∧ SpaceAt w' ao P) ∧ Below W.heap.size W w' := by
  refine (put_tells a c s now key v x til W hs hn hx).mono ?_
  rintro e w' ⟨⟨ao, co, l, rfl, hm, ho⟩, hb⟩
  have := ho.space hm (putS_right s now key x til)
  rw [hP] at this ⊢
  rw [hE]
  exact ⟨⟨ao, co, rfl, this⟩, hb⟩
theorem keys_bad (a : Option Addr) (c : Nat) (s : List Ent) (now : Int) (p : ByteArray) (W : World) (hs : SpaceAt W a s) (hn : s.length ≤ 281474976710656) (C : Int) (hL : keysR s now p = []) (hC : keysC s now p = C) :
    Calls Tryz.prog 9 #[.slice a s.length c, .int .i64 now, .string p] W fun e w' => (∃ ak ck, e = .returned (.tuple #[.slice ak 0 ck, .int .i64 C])) ∧ Below W.heap.size W w' := by
  refine (keys_texts a c s now p W hs hn [] C hL hC).mono ?_
  rintro e w' ⟨⟨ao, co, rfl, ho⟩, hb⟩
  exact ⟨⟨ao, co, rfl⟩, hb⟩
theorem sweep_bad (a : Option Addr) (c : Nat) (s : List Ent) (now : Int) (W : World) (hs : SpaceAt W a s) (hn : s.length ≤ 281474976710656) (C : Int) (hP : sweepR s now = []) (hN : sweepN s now = 0) (hC : chkAt s now = C) :
    Calls Tryz.prog 10 #[.slice a s.length c, .int .i64 now] W fun e w' => (∃ ao co, e = .returned (.tuple #[.slice ao 0 co, .int .i64 0, .int .i64 C])) ∧ Below W.heap.size W w' := by
  refine (sweep_space a c s now W hs hn [] 0 C hP hN hC).mono ?_
  rintro e w' ⟨⟨ao, co, rfl, ho⟩, hb⟩
  exact ⟨⟨ao, co, rfl⟩, hb⟩
theorem look_is (a : Option Addr) (c : Nat) (s : List Ent) (now : Int) (key : ByteArray) (w0 W : World) (h0 : Below w0.heap.size w0 W) (hs : SpaceAt w0 a s) (hn : s.length ≤ 1000000) (d : Ent) (hd : lookD s now key = d) :
    Calls Tryz.prog 15 #[.slice a s.length c, .int .i64 now, .string key] W fun e w' => (∃ y1 z1 y2 z2 y3 z3, e = .returned (.agg #[.string d.key, .int .i64 d.item.k, .string d.item.t, .slice y1 d.item.l.length z1, .slice y2 d.item.p.length z2, .slice y3 d.item.s.length z3, .int .i64 d.til]) ∧ ItemIs w0 (.agg #[.int .i64 d.item.k, .string d.item.t, .slice y1 d.item.l.length z1, .slice y2 d.item.p.length z2, .slice y3 d.item.s.length z3]) d.item) ∧ Below W.heap.size W w' := by
  refine (lookOf_any a c s now key w0 W h0 hs hn).mono ?_
  rintro e w' ⟨⟨v, rfl, y1, z1, y2, z2, y3, z3, rfl, hi⟩, hb⟩
  rw [hd] at hi ⊢
  exact ⟨⟨y1, z1, y2, z2, y3, z3, rfl, hi⟩, hb⟩
theorem isNo (x : Itm) (e1 : Option Addr) (f1 : Nat) (e2 : Option Addr) (f2 : Nat) (e3 : Option Addr) (f3 : Nat) (W : World) (h1 : x.l.length ≤ 281474976710656) (h2 : x.p.length ≤ 281474976710656) (h3 : x.s.length ≤ 281474976710656) (b : Bool) (hb : x.isNone = b) :
    Calls Tryz.prog 12 #[.agg #[.int .i64 x.k, .string x.t, .slice e1 x.l.length f1, .slice e2 x.p.length f2, .slice e3 x.s.length f3]] W fun e w' => e = .returned (.bool b) ∧ Below W.heap.size W w' := by
  have := refNothing_any x.k x.t e1 e2 e3 x.l.length x.p.length x.s.length f1 f2 f3 W h1 h2 h3
  rw [isNone_len, hb] at this
  exact this
theorem putErr_til {s : List Ent} {now : Int} {key : ByteArray} {x : Itm} {til : Int} (h1 : chkKey s now key = 0) (h2 : rightI x = 0) : putErr s now key x til = if tilBad now til = true then 3 else 0 := by
  unfold putErr
  rw [if_neg (by simp [h1]), if_neg (by simp [h2])]
theorem putE_of {s : List Ent} {now : Int} {key : ByteArray} {x : Itm} {til E : Int} (h : putErr s now key x til = E) (h0 : E ≠ 0) : putE s now key x til = E := by
  unfold putE
  rw [h, if_pos h0]
theorem kind_right {x : Itm} (h : chkI x = 0) : x.k ≠ 0 := by
  intro h0
  unfold chkI at h
  rw [if_pos (by omega)] at h
  exact absurd h (by decide)
theorem chkKey_empty (s : List Ent) (now : Int) : chkKey s now ⟨#[]⟩ = chkAt s now := by
  unfold chkKey
  by_cases h : chkAt s now = 0
  · rw [if_neg (by simp [h]), h]
    rw [if_neg (by decide)]
  · rw [if_pos h]
set_option maxRecDepth 100000 in
set_option maxHeartbeats 2000000 in
theorem spaceTells_walk (a : Option Addr) (c : Nat) (s : List Ent) (now : Int) (key : ByteArray) (v : Value) (x : Itm) (til : Int) (p : ByteArray) (w : World) (hs : SpaceAt w a s) (hn : s.length ≤ 281474976710656) (hx : ItemIs w v x) :
    Calls Tryz.prog 3 #[.slice a s.length c, .int .i64 now, .string key, v, .int .i64 til, .string p] w fun e w' => e = .returned (.bool true) ∧ Below w.heap.size w w' := by
  have hx0 := hx
  obtain ⟨⟨p1, q1, p2, q2, p3, q3, rfl, -, -, -⟩, -, -, -, -, ll, pl, sl⟩ := hx0
  obtain ⟨CS, hCS⟩ : ∃ CS, chkSp s = CS := ⟨_, rfl⟩
  have HBG : CBGx0  := fun W => spaceBegun_any W
  have HCK : CCKx0 a c s CS := fun W h => by
      have := spCheck_any a c s W h hn
      rw [hCS] at this; exact this
  have HCS : CCSx0 a c s CS := fun W h => by
      have := refSpace_any a c s W h hn
      rw [hCS] at this; exact this
  by_cases hv : chkKey s now key = 0
  · obtain ⟨hu, hlk⟩ := chkAt_chkKey hv
    have hr := spRight (chkSp_chkAt hu).1
    have hsn := hr.n
    have hn6 : s.length ≤ 1000000 := by omega
    obtain ⟨Q, hQ⟩ : ∃ Q, sweepS s now = Q := ⟨_, rfl⟩
    have hqn : Q.length ≤ 16 := by
      rw [← hQ]; exact (hr.filter _).n
    have hsR : sweepR s now = Q := by unfold sweepR; rw [if_pos hu, hQ]
    have hsN : sweepN s now = ((s.length : Nat) : Int) - ((Q.length : Nat) : Int) := by unfold sweepN; rw [if_pos hu, hQ]
    obtain ⟨d, hd⟩ : ∃ d, lookD s now key = d := ⟨_, rfl⟩
    obtain ⟨o, ho⟩ : ∃ o, d.item = o := ⟨_, rfl⟩
    have hgo : getR s now key = o := by
      unfold getR
      rw [if_pos hv, ← ho, ← hd]
      unfold lookD
      cases lookE s now key <;> rfl
    have HS : CSx0 a c s now Q := fun W h => sweep_space a c s now W h hn Q _ 0 hsR hsN hu
    have HSO : CSOx0 a c s now Q := fun W h => by
          have := sweepOf_any a c s now W h hn6
          rw [hQ] at this; exact this
    have HSI2 : CSI2x0 Q := fun aq cq ar cr W h1 h2 => spaceIs_any aq ar cq cr Q 0 W h1 h2 (fun h => absurd rfl h) (by omega)
    have HCB : CCBx0 a c s now := fun W h => by
          have := refAt_any a c s now ⟨#[]⟩ W h hn
          rw [chkKey_empty, hu] at this; exact this
    have HG : CGx0 a c s now key o := fun W h => get_item a c s now key W h hn o 0 hgo hv
    have HCA : CCAx0 a c s now key := fun W h => by
          have := refAt_any a c s now key W h hn
          rw [hv] at this; exact this
    have HL : CLx0 a c s now key d := fun w0 W hb h => look_is a c s now key w0 W hb h hn6 d hd
    have HOO : COOx0 o d := fun v u W h1 h2 => by
          rw [ho] at h2
          exact items_same h1 h2
    by_cases hg : checkG p = 0
    · obtain ⟨L, hL⟩ : ∃ L, keysE s now p = L := ⟨_, rfl⟩
      have hln : L.length ≤ 16 := by
        rw [← hL]; have := keysE_len s now p; omega
      have HK : CKx1 a c s now p L := fun W h => keys_texts a c s now p W h hn L 0 (by unfold keysR; rw [if_pos hu, if_pos hg, hL]) (by unfold keysC; rw [if_pos hu, hg])
      have HCG : CCGx1 p := fun W => by
              have := checkGlob_any p W
              rw [hg] at this; exact this
      have HKO : CKOx0 a c s now p L := fun W h => by
              have := keysOf_any a c s now p W h hn6 hg (fun y hy => (chkE_right (hr.e y hy)).1)
              rw [hL] at this; exact this
      have HTT : CTTx1 L := fun ak ck al cl W h1 h2 => texts_same h1 h2 (by omega)
      cases hl : lookE s now key with
      | some y =>
        have hdy : d = y := by rw [← hd]; unfold lookD; rw [hl]; rfl
        have hyc : chkI y.item = 0 := (chkE_right (hr.e y (look_some hl).1)).2.1
        have hdk : (d.item.k == 0) = false := by
          rw [hdy, beq_eq_false_iff_ne]; exact kind_right hyc
        have HU : CUx0 a c s now key d := fun W h => until_two a c s now key W h hn d.til 0 (by unfold untilR; rw [if_pos hv, hl, hdy]; rfl) (by unfold untilE; rw [if_pos hv, hl]; rfl)
        by_cases hno : x.isNone = true
        · have hri : rightI x = 0 := by unfold rightI; rw [if_pos hno]
          have HN : CNx0 x := fun e1 f1 e2 f2 e3 f3 W => isNo x e1 f1 e2 f2 e3 f3 W (by omega) (by omega) (by omega) true hno
          by_cases t0 : til = 0
          · have ht1 : (til != 0) = false := by simp [t0]
            have htb : tilBad now til = false := by unfold tilBad; rw [decide_eq_false_iff_not]; omega
            have hpe : putErr s now key x til = 0 := by rw [putErr_til hv hri, if_neg (by rw [htb]; decide)]
            obtain ⟨P, hP⟩ : ∃ P, putS s now key x til = P := ⟨_, rfl⟩
            obtain ⟨EP, hEP⟩ : ∃ EP, putE s now key x til = EP := ⟨_, rfl⟩
            have HP : CPx0 a c s now key x til p1 q1 p2 q2 p3 q3 P EP := fun W h h2 => put_good a c s now key _ x til W h hn h2 P EP hP hEP
            have HPO : CPOx0 a c s now key x til p1 q1 p2 q2 p3 q3 P EP := fun W h h2 => by
                          have := putOf_any a c s now key _ x til W h h2 hpe
                          rw [hP, hEP] at this; exact this
            have HSI1 : CSI1x0 P EP := fun ao co ap cp W h1 h2 => spaceIs_any ao ap co cp P EP W h1 h2 (fun h => hP.symm.trans (putS_err (fun h0 => h (hEP.symm.trans h0)))) (by
                          have := (putS_right s now key x til).n
                          rw [hP] at this; omega)
            exact tl_nok0_D1 a c s now key x til p w p1 q1 p2 q2 p3 q3 o CS d P EP Q L hs hx HG HP HU HK HS HCA HCB HN HL HPO HCG HKO HSO HBG HCK HCS HOO HSI1 HTT HSI2 hsn hqn hdk ht1
          · have ht1 : (til != 0) = true := by simpa using t0
            by_cases t1 : til ≤ now
            · have ht2 : decide (til ≤ now) = true := decide_eq_true t1
              have htb : tilBad now til = true := by unfold tilBad; rw [decide_eq_true_eq]; omega
              have hpe : putE s now key x til = 3 := putE_of (by rw [putErr_til hv hri, if_pos htb]) (by decide)
              have HP : CPx1 a c s now key x til p1 q1 p2 q2 p3 q3 := fun W h h2 => put_bad a c s now key _ x til W h hn h2 3 hpe (by decide)
              have HSI1 : CSI1x1  := fun ao co W => spaceIs_any ao none co 0 [] 3 W (.inl rfl) (.inl rfl) (fun _ => rfl) (Nat.zero_le _)
              exact tl_ne0_D1 a c s now key x til p w p1 q1 p2 q2 p3 q3 o CS d Q L hs hx HG HP HU HK HS HCA HCB HN HL HCG HKO HSO HBG HCK HCS HOO HSI1 HTT HSI2 hsn hqn hdk ht1 ht2
            · have ht2 : decide (til ≤ now) = false := decide_eq_false t1
              by_cases t2 : 1000000 < til
              · have ht3 : decide (1000000 < til) = true := decide_eq_true t2
                have htb : tilBad now til = true := by unfold tilBad; rw [decide_eq_true_eq]; omega
                have hpe : putE s now key x til = 3 := putE_of (by rw [putErr_til hv hri, if_pos htb]) (by decide)
                have HP : CPx1 a c s now key x til p1 q1 p2 q2 p3 q3 := fun W h h2 => put_bad a c s now key _ x til W h hn h2 3 hpe (by decide)
                have HSI1 : CSI1x1  := fun ao co W => spaceIs_any ao none co 0 [] 3 W (.inl rfl) (.inl rfl) (fun _ => rfl) (Nat.zero_le _)
                exact tl_ne1_D1 a c s now key x til p w p1 q1 p2 q2 p3 q3 o CS d Q L hs hx HG HP HU HK HS HCA HCB HN HL HCG HKO HSO HBG HCK HCS HOO HSI1 HTT HSI2 hsn hqn hdk ht1 ht2 ht3
              · have ht3 : decide (1000000 < til) = false := decide_eq_false t2
                have htb : tilBad now til = false := by unfold tilBad; rw [decide_eq_false_iff_not]; omega
                have hpe : putErr s now key x til = 0 := by rw [putErr_til hv hri, if_neg (by rw [htb]; decide)]
                obtain ⟨P, hP⟩ : ∃ P, putS s now key x til = P := ⟨_, rfl⟩
                obtain ⟨EP, hEP⟩ : ∃ EP, putE s now key x til = EP := ⟨_, rfl⟩
                have HP : CPx0 a c s now key x til p1 q1 p2 q2 p3 q3 P EP := fun W h h2 => put_good a c s now key _ x til W h hn h2 P EP hP hEP
                have HPO : CPOx0 a c s now key x til p1 q1 p2 q2 p3 q3 P EP := fun W h h2 => by
                                  have := putOf_any a c s now key _ x til W h h2 hpe
                                  rw [hP, hEP] at this; exact this
                have HSI1 : CSI1x0 P EP := fun ao co ap cp W h1 h2 => spaceIs_any ao ap co cp P EP W h1 h2 (fun h => hP.symm.trans (putS_err (fun h0 => h (hEP.symm.trans h0)))) (by
                                  have := (putS_right s now key x til).n
                                  rw [hP] at this; omega)
                exact tl_nok1_D1 a c s now key x til p w p1 q1 p2 q2 p3 q3 o CS d P EP Q L hs hx HG HP HU HK HS HCA HCB HN HL HPO HCG HKO HSO HBG HCK HCS HOO HSI1 HTT HSI2 hsn hqn hdk ht1 ht2 ht3
        · have hno' : x.isNone = false := by simpa using hno
          have HN : CNx1 x := fun e1 f1 e2 f2 e3 f3 W => isNo x e1 f1 e2 f2 e3 f3 W (by omega) (by omega) (by omega) false hno'
          have hrc : rightI x = chkI x := by unfold rightI; rw [if_neg hno]
          by_cases hci : chkI x = 0
          · have hri : rightI x = 0 := hrc.trans hci
            have HCI : CCIx0 x p1 q1 p2 q2 p3 q3 := fun W h => by
                          have := refCheck_any _ x W h
                          rw [hci] at this; exact this
            by_cases t0 : til = 0
            · have ht1 : (til != 0) = false := by simp [t0]
              have htb : tilBad now til = false := by unfold tilBad; rw [decide_eq_false_iff_not]; omega
              have hpe : putErr s now key x til = 0 := by rw [putErr_til hv hri, if_neg (by rw [htb]; decide)]
              obtain ⟨P, hP⟩ : ∃ P, putS s now key x til = P := ⟨_, rfl⟩
              obtain ⟨EP, hEP⟩ : ∃ EP, putE s now key x til = EP := ⟨_, rfl⟩
              have HP : CPx0 a c s now key x til p1 q1 p2 q2 p3 q3 P EP := fun W h h2 => put_good a c s now key _ x til W h hn h2 P EP hP hEP
              have HPO : CPOx0 a c s now key x til p1 q1 p2 q2 p3 q3 P EP := fun W h h2 => by
                              have := putOf_any a c s now key _ x til W h h2 hpe
                              rw [hP, hEP] at this; exact this
              have HSI1 : CSI1x0 P EP := fun ao co ap cp W h1 h2 => spaceIs_any ao ap co cp P EP W h1 h2 (fun h => hP.symm.trans (putS_err (fun h0 => h (hEP.symm.trans h0)))) (by
                              have := (putS_right s now key x til).n
                              rw [hP] at this; omega)
              exact tl_gok0_D1 a c s now key x til p w p1 q1 p2 q2 p3 q3 o CS d P EP Q L hs hx HG HP HU HK HS HCA HCB HN HCI HL HPO HCG HKO HSO HBG HCK HCS HOO HSI1 HTT HSI2 hsn hqn hdk ht1
            · have ht1 : (til != 0) = true := by simpa using t0
              by_cases t1 : til ≤ now
              · have ht2 : decide (til ≤ now) = true := decide_eq_true t1
                have htb : tilBad now til = true := by unfold tilBad; rw [decide_eq_true_eq]; omega
                have hpe : putE s now key x til = 3 := putE_of (by rw [putErr_til hv hri, if_pos htb]) (by decide)
                have HP : CPx1 a c s now key x til p1 q1 p2 q2 p3 q3 := fun W h h2 => put_bad a c s now key _ x til W h hn h2 3 hpe (by decide)
                have HSI1 : CSI1x1  := fun ao co W => spaceIs_any ao none co 0 [] 3 W (.inl rfl) (.inl rfl) (fun _ => rfl) (Nat.zero_le _)
                exact tl_ge0_D1 a c s now key x til p w p1 q1 p2 q2 p3 q3 o CS d Q L hs hx HG HP HU HK HS HCA HCB HN HCI HL HCG HKO HSO HBG HCK HCS HOO HSI1 HTT HSI2 hsn hqn hdk ht1 ht2
              · have ht2 : decide (til ≤ now) = false := decide_eq_false t1
                by_cases t2 : 1000000 < til
                · have ht3 : decide (1000000 < til) = true := decide_eq_true t2
                  have htb : tilBad now til = true := by unfold tilBad; rw [decide_eq_true_eq]; omega
                  have hpe : putE s now key x til = 3 := putE_of (by rw [putErr_til hv hri, if_pos htb]) (by decide)
                  have HP : CPx1 a c s now key x til p1 q1 p2 q2 p3 q3 := fun W h h2 => put_bad a c s now key _ x til W h hn h2 3 hpe (by decide)
                  have HSI1 : CSI1x1  := fun ao co W => spaceIs_any ao none co 0 [] 3 W (.inl rfl) (.inl rfl) (fun _ => rfl) (Nat.zero_le _)
                  exact tl_ge1_D1 a c s now key x til p w p1 q1 p2 q2 p3 q3 o CS d Q L hs hx HG HP HU HK HS HCA HCB HN HCI HL HCG HKO HSO HBG HCK HCS HOO HSI1 HTT HSI2 hsn hqn hdk ht1 ht2 ht3
                · have ht3 : decide (1000000 < til) = false := decide_eq_false t2
                  have htb : tilBad now til = false := by unfold tilBad; rw [decide_eq_false_iff_not]; omega
                  have hpe : putErr s now key x til = 0 := by rw [putErr_til hv hri, if_neg (by rw [htb]; decide)]
                  obtain ⟨P, hP⟩ : ∃ P, putS s now key x til = P := ⟨_, rfl⟩
                  obtain ⟨EP, hEP⟩ : ∃ EP, putE s now key x til = EP := ⟨_, rfl⟩
                  have HP : CPx0 a c s now key x til p1 q1 p2 q2 p3 q3 P EP := fun W h h2 => put_good a c s now key _ x til W h hn h2 P EP hP hEP
                  have HPO : CPOx0 a c s now key x til p1 q1 p2 q2 p3 q3 P EP := fun W h h2 => by
                                      have := putOf_any a c s now key _ x til W h h2 hpe
                                      rw [hP, hEP] at this; exact this
                  have HSI1 : CSI1x0 P EP := fun ao co ap cp W h1 h2 => spaceIs_any ao ap co cp P EP W h1 h2 (fun h => hP.symm.trans (putS_err (fun h0 => h (hEP.symm.trans h0)))) (by
                                      have := (putS_right s now key x til).n
                                      rw [hP] at this; omega)
                  exact tl_gok1_D1 a c s now key x til p w p1 q1 p2 q2 p3 q3 o CS d P EP Q L hs hx HG HP HU HK HS HCA HCB HN HCI HL HPO HCG HKO HSO HBG HCK HCS HOO HSI1 HTT HSI2 hsn hqn hdk ht1 ht2 ht3
          · obtain ⟨EI, hEI⟩ : ∃ EI, chkI x = EI := ⟨_, rfl⟩
            have hi0 : EI ≠ 0 := hEI ▸ hci
            have hi1 : (EI == 0) = false := by rw [beq_eq_false_iff_ne]; exact hi0
            have hpe : putE s now key x til = EI := putE_of (by
              unfold putErr
              rw [if_neg (by simp [hv]), hrc, if_pos hci, hEI]) hi0
            have HCI : CCIx1 x p1 q1 p2 q2 p3 q3 EI := fun W h => by
                          have := refCheck_any _ x W h
                          rw [hEI] at this; exact this
            have HP : CPx2 a c s now key x til p1 q1 p2 q2 p3 q3 EI := fun W h h2 => put_bad a c s now key _ x til W h hn h2 EI hpe hi0
            have HSI1 : CSI1x2 EI := fun ao co W => spaceIs_any ao none co 0 [] EI W (.inl rfl) (.inl rfl) (fun _ => rfl) (Nat.zero_le _)
            exact tl_c_D1 a c s now key x til p w p1 q1 p2 q2 p3 q3 o CS d EI Q L hs hx HG HP HU HK HS HCA HCB HN HCI HL HCG HKO HSO HBG HCK HCS HOO HSI1 HTT HSI2 hsn hqn hdk hi1
      | none =>
        have hdy : d = Ent.none := by rw [← hd]; unfold lookD; rw [hl]; rfl
        have hdk : (d.item.k == 0) = true := by rw [hdy]; rfl
        have HU : CUx1 a c s now key := fun W h => until_two a c s now key W h hn 0 5 (by unfold untilR; rw [if_pos hv, hl]; rfl) (by unfold untilE; rw [if_pos hv, hl]; rfl)
        by_cases hno : x.isNone = true
        · have hri : rightI x = 0 := by unfold rightI; rw [if_pos hno]
          have HN : CNx0 x := fun e1 f1 e2 f2 e3 f3 W => isNo x e1 f1 e2 f2 e3 f3 W (by omega) (by omega) (by omega) true hno
          by_cases t0 : til = 0
          · have ht1 : (til != 0) = false := by simp [t0]
            have htb : tilBad now til = false := by unfold tilBad; rw [decide_eq_false_iff_not]; omega
            have hpe : putErr s now key x til = 0 := by rw [putErr_til hv hri, if_neg (by rw [htb]; decide)]
            obtain ⟨P, hP⟩ : ∃ P, putS s now key x til = P := ⟨_, rfl⟩
            obtain ⟨EP, hEP⟩ : ∃ EP, putE s now key x til = EP := ⟨_, rfl⟩
            have HP : CPx0 a c s now key x til p1 q1 p2 q2 p3 q3 P EP := fun W h h2 => put_good a c s now key _ x til W h hn h2 P EP hP hEP
            have HPO : CPOx0 a c s now key x til p1 q1 p2 q2 p3 q3 P EP := fun W h h2 => by
                          have := putOf_any a c s now key _ x til W h h2 hpe
                          rw [hP, hEP] at this; exact this
            have HSI1 : CSI1x0 P EP := fun ao co ap cp W h1 h2 => spaceIs_any ao ap co cp P EP W h1 h2 (fun h => hP.symm.trans (putS_err (fun h0 => h (hEP.symm.trans h0)))) (by
                          have := (putS_right s now key x til).n
                          rw [hP] at this; omega)
            exact tl_nok0_N1 a c s now key x til p w p1 q1 p2 q2 p3 q3 o CS d P EP Q L hs hx HG HP HU HK HS HCA HCB HN HL HPO HCG HKO HSO HBG HCK HCS HOO HSI1 HTT HSI2 hsn hqn hdk ht1
          · have ht1 : (til != 0) = true := by simpa using t0
            by_cases t1 : til ≤ now
            · have ht2 : decide (til ≤ now) = true := decide_eq_true t1
              have htb : tilBad now til = true := by unfold tilBad; rw [decide_eq_true_eq]; omega
              have hpe : putE s now key x til = 3 := putE_of (by rw [putErr_til hv hri, if_pos htb]) (by decide)
              have HP : CPx1 a c s now key x til p1 q1 p2 q2 p3 q3 := fun W h h2 => put_bad a c s now key _ x til W h hn h2 3 hpe (by decide)
              have HSI1 : CSI1x1  := fun ao co W => spaceIs_any ao none co 0 [] 3 W (.inl rfl) (.inl rfl) (fun _ => rfl) (Nat.zero_le _)
              exact tl_ne0_N1 a c s now key x til p w p1 q1 p2 q2 p3 q3 o CS d Q L hs hx HG HP HU HK HS HCA HCB HN HL HCG HKO HSO HBG HCK HCS HOO HSI1 HTT HSI2 hsn hqn hdk ht1 ht2
            · have ht2 : decide (til ≤ now) = false := decide_eq_false t1
              by_cases t2 : 1000000 < til
              · have ht3 : decide (1000000 < til) = true := decide_eq_true t2
                have htb : tilBad now til = true := by unfold tilBad; rw [decide_eq_true_eq]; omega
                have hpe : putE s now key x til = 3 := putE_of (by rw [putErr_til hv hri, if_pos htb]) (by decide)
                have HP : CPx1 a c s now key x til p1 q1 p2 q2 p3 q3 := fun W h h2 => put_bad a c s now key _ x til W h hn h2 3 hpe (by decide)
                have HSI1 : CSI1x1  := fun ao co W => spaceIs_any ao none co 0 [] 3 W (.inl rfl) (.inl rfl) (fun _ => rfl) (Nat.zero_le _)
                exact tl_ne1_N1 a c s now key x til p w p1 q1 p2 q2 p3 q3 o CS d Q L hs hx HG HP HU HK HS HCA HCB HN HL HCG HKO HSO HBG HCK HCS HOO HSI1 HTT HSI2 hsn hqn hdk ht1 ht2 ht3
              · have ht3 : decide (1000000 < til) = false := decide_eq_false t2
                have htb : tilBad now til = false := by unfold tilBad; rw [decide_eq_false_iff_not]; omega
                have hpe : putErr s now key x til = 0 := by rw [putErr_til hv hri, if_neg (by rw [htb]; decide)]
                obtain ⟨P, hP⟩ : ∃ P, putS s now key x til = P := ⟨_, rfl⟩
                obtain ⟨EP, hEP⟩ : ∃ EP, putE s now key x til = EP := ⟨_, rfl⟩
                have HP : CPx0 a c s now key x til p1 q1 p2 q2 p3 q3 P EP := fun W h h2 => put_good a c s now key _ x til W h hn h2 P EP hP hEP
                have HPO : CPOx0 a c s now key x til p1 q1 p2 q2 p3 q3 P EP := fun W h h2 => by
                                  have := putOf_any a c s now key _ x til W h h2 hpe
                                  rw [hP, hEP] at this; exact this
                have HSI1 : CSI1x0 P EP := fun ao co ap cp W h1 h2 => spaceIs_any ao ap co cp P EP W h1 h2 (fun h => hP.symm.trans (putS_err (fun h0 => h (hEP.symm.trans h0)))) (by
                                  have := (putS_right s now key x til).n
                                  rw [hP] at this; omega)
                exact tl_nok1_N1 a c s now key x til p w p1 q1 p2 q2 p3 q3 o CS d P EP Q L hs hx HG HP HU HK HS HCA HCB HN HL HPO HCG HKO HSO HBG HCK HCS HOO HSI1 HTT HSI2 hsn hqn hdk ht1 ht2 ht3
        · have hno' : x.isNone = false := by simpa using hno
          have HN : CNx1 x := fun e1 f1 e2 f2 e3 f3 W => isNo x e1 f1 e2 f2 e3 f3 W (by omega) (by omega) (by omega) false hno'
          have hrc : rightI x = chkI x := by unfold rightI; rw [if_neg hno]
          by_cases hci : chkI x = 0
          · have hri : rightI x = 0 := hrc.trans hci
            have HCI : CCIx0 x p1 q1 p2 q2 p3 q3 := fun W h => by
                          have := refCheck_any _ x W h
                          rw [hci] at this; exact this
            by_cases t0 : til = 0
            · have ht1 : (til != 0) = false := by simp [t0]
              have htb : tilBad now til = false := by unfold tilBad; rw [decide_eq_false_iff_not]; omega
              have hpe : putErr s now key x til = 0 := by rw [putErr_til hv hri, if_neg (by rw [htb]; decide)]
              obtain ⟨P, hP⟩ : ∃ P, putS s now key x til = P := ⟨_, rfl⟩
              obtain ⟨EP, hEP⟩ : ∃ EP, putE s now key x til = EP := ⟨_, rfl⟩
              have HP : CPx0 a c s now key x til p1 q1 p2 q2 p3 q3 P EP := fun W h h2 => put_good a c s now key _ x til W h hn h2 P EP hP hEP
              have HPO : CPOx0 a c s now key x til p1 q1 p2 q2 p3 q3 P EP := fun W h h2 => by
                              have := putOf_any a c s now key _ x til W h h2 hpe
                              rw [hP, hEP] at this; exact this
              have HSI1 : CSI1x0 P EP := fun ao co ap cp W h1 h2 => spaceIs_any ao ap co cp P EP W h1 h2 (fun h => hP.symm.trans (putS_err (fun h0 => h (hEP.symm.trans h0)))) (by
                              have := (putS_right s now key x til).n
                              rw [hP] at this; omega)
              exact tl_gok0_N1 a c s now key x til p w p1 q1 p2 q2 p3 q3 o CS d P EP Q L hs hx HG HP HU HK HS HCA HCB HN HCI HL HPO HCG HKO HSO HBG HCK HCS HOO HSI1 HTT HSI2 hsn hqn hdk ht1
            · have ht1 : (til != 0) = true := by simpa using t0
              by_cases t1 : til ≤ now
              · have ht2 : decide (til ≤ now) = true := decide_eq_true t1
                have htb : tilBad now til = true := by unfold tilBad; rw [decide_eq_true_eq]; omega
                have hpe : putE s now key x til = 3 := putE_of (by rw [putErr_til hv hri, if_pos htb]) (by decide)
                have HP : CPx1 a c s now key x til p1 q1 p2 q2 p3 q3 := fun W h h2 => put_bad a c s now key _ x til W h hn h2 3 hpe (by decide)
                have HSI1 : CSI1x1  := fun ao co W => spaceIs_any ao none co 0 [] 3 W (.inl rfl) (.inl rfl) (fun _ => rfl) (Nat.zero_le _)
                exact tl_ge0_N1 a c s now key x til p w p1 q1 p2 q2 p3 q3 o CS d Q L hs hx HG HP HU HK HS HCA HCB HN HCI HL HCG HKO HSO HBG HCK HCS HOO HSI1 HTT HSI2 hsn hqn hdk ht1 ht2
              · have ht2 : decide (til ≤ now) = false := decide_eq_false t1
                by_cases t2 : 1000000 < til
                · have ht3 : decide (1000000 < til) = true := decide_eq_true t2
                  have htb : tilBad now til = true := by unfold tilBad; rw [decide_eq_true_eq]; omega
                  have hpe : putE s now key x til = 3 := putE_of (by rw [putErr_til hv hri, if_pos htb]) (by decide)
                  have HP : CPx1 a c s now key x til p1 q1 p2 q2 p3 q3 := fun W h h2 => put_bad a c s now key _ x til W h hn h2 3 hpe (by decide)
                  have HSI1 : CSI1x1  := fun ao co W => spaceIs_any ao none co 0 [] 3 W (.inl rfl) (.inl rfl) (fun _ => rfl) (Nat.zero_le _)
                  exact tl_ge1_N1 a c s now key x til p w p1 q1 p2 q2 p3 q3 o CS d Q L hs hx HG HP HU HK HS HCA HCB HN HCI HL HCG HKO HSO HBG HCK HCS HOO HSI1 HTT HSI2 hsn hqn hdk ht1 ht2 ht3
                · have ht3 : decide (1000000 < til) = false := decide_eq_false t2
                  have htb : tilBad now til = false := by unfold tilBad; rw [decide_eq_false_iff_not]; omega
                  have hpe : putErr s now key x til = 0 := by rw [putErr_til hv hri, if_neg (by rw [htb]; decide)]
                  obtain ⟨P, hP⟩ : ∃ P, putS s now key x til = P := ⟨_, rfl⟩
                  obtain ⟨EP, hEP⟩ : ∃ EP, putE s now key x til = EP := ⟨_, rfl⟩
                  have HP : CPx0 a c s now key x til p1 q1 p2 q2 p3 q3 P EP := fun W h h2 => put_good a c s now key _ x til W h hn h2 P EP hP hEP
                  have HPO : CPOx0 a c s now key x til p1 q1 p2 q2 p3 q3 P EP := fun W h h2 => by
                                      have := putOf_any a c s now key _ x til W h h2 hpe
                                      rw [hP, hEP] at this; exact this
                  have HSI1 : CSI1x0 P EP := fun ao co ap cp W h1 h2 => spaceIs_any ao ap co cp P EP W h1 h2 (fun h => hP.symm.trans (putS_err (fun h0 => h (hEP.symm.trans h0)))) (by
                                      have := (putS_right s now key x til).n
                                      rw [hP] at this; omega)
                  exact tl_gok1_N1 a c s now key x til p w p1 q1 p2 q2 p3 q3 o CS d P EP Q L hs hx HG HP HU HK HS HCA HCB HN HCI HL HPO HCG HKO HSO HBG HCK HCS HOO HSI1 HTT HSI2 hsn hqn hdk ht1 ht2 ht3
          · obtain ⟨EI, hEI⟩ : ∃ EI, chkI x = EI := ⟨_, rfl⟩
            have hi0 : EI ≠ 0 := hEI ▸ hci
            have hi1 : (EI == 0) = false := by rw [beq_eq_false_iff_ne]; exact hi0
            have hpe : putE s now key x til = EI := putE_of (by
              unfold putErr
              rw [if_neg (by simp [hv]), hrc, if_pos hci, hEI]) hi0
            have HCI : CCIx1 x p1 q1 p2 q2 p3 q3 EI := fun W h => by
                          have := refCheck_any _ x W h
                          rw [hEI] at this; exact this
            have HP : CPx2 a c s now key x til p1 q1 p2 q2 p3 q3 EI := fun W h h2 => put_bad a c s now key _ x til W h hn h2 EI hpe hi0
            have HSI1 : CSI1x2 EI := fun ao co W => spaceIs_any ao none co 0 [] EI W (.inl rfl) (.inl rfl) (fun _ => rfl) (Nat.zero_le _)
            exact tl_c_N1 a c s now key x til p w p1 q1 p2 q2 p3 q3 o CS d EI Q L hs hx HG HP HU HK HS HCA HCB HN HCI HL HCG HKO HSO HBG HCK HCS HOO HSI1 HTT HSI2 hsn hqn hdk hi1
    · obtain ⟨EG, hEG⟩ : ∃ EG, checkG p = EG := ⟨_, rfl⟩
      have hg1 : (EG == 0) = false := by rw [beq_eq_false_iff_ne, ← hEG]; exact hg
      have HK : CKx0 a c s now p EG := fun W h => keys_bad a c s now p W h hn EG (by unfold keysR; rw [if_pos hu, if_neg hg]) (by unfold keysC; rw [if_pos hu, hEG])
      have HCG : CCGx0 p EG := fun W => by
              have := checkGlob_any p W
              rw [hEG] at this; exact this
      have HTT : CTTx0  := fun ak ck W => texts_same (L := []) (.inl rfl) (.inl rfl) (Nat.zero_le _)
      cases hl : lookE s now key with
      | some y =>
        have hdy : d = y := by rw [← hd]; unfold lookD; rw [hl]; rfl
        have hyc : chkI y.item = 0 := (chkE_right (hr.e y (look_some hl).1)).2.1
        have hdk : (d.item.k == 0) = false := by
          rw [hdy, beq_eq_false_iff_ne]; exact kind_right hyc
        have HU : CUx0 a c s now key d := fun W h => until_two a c s now key W h hn d.til 0 (by unfold untilR; rw [if_pos hv, hl, hdy]; rfl) (by unfold untilE; rw [if_pos hv, hl]; rfl)
        by_cases hno : x.isNone = true
        · have hri : rightI x = 0 := by unfold rightI; rw [if_pos hno]
          have HN : CNx0 x := fun e1 f1 e2 f2 e3 f3 W => isNo x e1 f1 e2 f2 e3 f3 W (by omega) (by omega) (by omega) true hno
          by_cases t0 : til = 0
          · have ht1 : (til != 0) = false := by simp [t0]
            have htb : tilBad now til = false := by unfold tilBad; rw [decide_eq_false_iff_not]; omega
            have hpe : putErr s now key x til = 0 := by rw [putErr_til hv hri, if_neg (by rw [htb]; decide)]
            obtain ⟨P, hP⟩ : ∃ P, putS s now key x til = P := ⟨_, rfl⟩
            obtain ⟨EP, hEP⟩ : ∃ EP, putE s now key x til = EP := ⟨_, rfl⟩
            have HP : CPx0 a c s now key x til p1 q1 p2 q2 p3 q3 P EP := fun W h h2 => put_good a c s now key _ x til W h hn h2 P EP hP hEP
            have HPO : CPOx0 a c s now key x til p1 q1 p2 q2 p3 q3 P EP := fun W h h2 => by
                          have := putOf_any a c s now key _ x til W h h2 hpe
                          rw [hP, hEP] at this; exact this
            have HSI1 : CSI1x0 P EP := fun ao co ap cp W h1 h2 => spaceIs_any ao ap co cp P EP W h1 h2 (fun h => hP.symm.trans (putS_err (fun h0 => h (hEP.symm.trans h0)))) (by
                          have := (putS_right s now key x til).n
                          rw [hP] at this; omega)
            exact tl_nok0_D0 a c s now key x til p w p1 q1 p2 q2 p3 q3 o CS d P EP Q EG hs hx HG HP HU HK HS HCA HCB HN HL HPO HCG HSO HBG HCK HCS HOO HSI1 HTT HSI2 hsn hqn hg1 hdk ht1
          · have ht1 : (til != 0) = true := by simpa using t0
            by_cases t1 : til ≤ now
            · have ht2 : decide (til ≤ now) = true := decide_eq_true t1
              have htb : tilBad now til = true := by unfold tilBad; rw [decide_eq_true_eq]; omega
              have hpe : putE s now key x til = 3 := putE_of (by rw [putErr_til hv hri, if_pos htb]) (by decide)
              have HP : CPx1 a c s now key x til p1 q1 p2 q2 p3 q3 := fun W h h2 => put_bad a c s now key _ x til W h hn h2 3 hpe (by decide)
              have HSI1 : CSI1x1  := fun ao co W => spaceIs_any ao none co 0 [] 3 W (.inl rfl) (.inl rfl) (fun _ => rfl) (Nat.zero_le _)
              exact tl_ne0_D0 a c s now key x til p w p1 q1 p2 q2 p3 q3 o CS d Q EG hs hx HG HP HU HK HS HCA HCB HN HL HCG HSO HBG HCK HCS HOO HSI1 HTT HSI2 hsn hqn hg1 hdk ht1 ht2
            · have ht2 : decide (til ≤ now) = false := decide_eq_false t1
              by_cases t2 : 1000000 < til
              · have ht3 : decide (1000000 < til) = true := decide_eq_true t2
                have htb : tilBad now til = true := by unfold tilBad; rw [decide_eq_true_eq]; omega
                have hpe : putE s now key x til = 3 := putE_of (by rw [putErr_til hv hri, if_pos htb]) (by decide)
                have HP : CPx1 a c s now key x til p1 q1 p2 q2 p3 q3 := fun W h h2 => put_bad a c s now key _ x til W h hn h2 3 hpe (by decide)
                have HSI1 : CSI1x1  := fun ao co W => spaceIs_any ao none co 0 [] 3 W (.inl rfl) (.inl rfl) (fun _ => rfl) (Nat.zero_le _)
                exact tl_ne1_D0 a c s now key x til p w p1 q1 p2 q2 p3 q3 o CS d Q EG hs hx HG HP HU HK HS HCA HCB HN HL HCG HSO HBG HCK HCS HOO HSI1 HTT HSI2 hsn hqn hg1 hdk ht1 ht2 ht3
              · have ht3 : decide (1000000 < til) = false := decide_eq_false t2
                have htb : tilBad now til = false := by unfold tilBad; rw [decide_eq_false_iff_not]; omega
                have hpe : putErr s now key x til = 0 := by rw [putErr_til hv hri, if_neg (by rw [htb]; decide)]
                obtain ⟨P, hP⟩ : ∃ P, putS s now key x til = P := ⟨_, rfl⟩
                obtain ⟨EP, hEP⟩ : ∃ EP, putE s now key x til = EP := ⟨_, rfl⟩
                have HP : CPx0 a c s now key x til p1 q1 p2 q2 p3 q3 P EP := fun W h h2 => put_good a c s now key _ x til W h hn h2 P EP hP hEP
                have HPO : CPOx0 a c s now key x til p1 q1 p2 q2 p3 q3 P EP := fun W h h2 => by
                                  have := putOf_any a c s now key _ x til W h h2 hpe
                                  rw [hP, hEP] at this; exact this
                have HSI1 : CSI1x0 P EP := fun ao co ap cp W h1 h2 => spaceIs_any ao ap co cp P EP W h1 h2 (fun h => hP.symm.trans (putS_err (fun h0 => h (hEP.symm.trans h0)))) (by
                                  have := (putS_right s now key x til).n
                                  rw [hP] at this; omega)
                exact tl_nok1_D0 a c s now key x til p w p1 q1 p2 q2 p3 q3 o CS d P EP Q EG hs hx HG HP HU HK HS HCA HCB HN HL HPO HCG HSO HBG HCK HCS HOO HSI1 HTT HSI2 hsn hqn hg1 hdk ht1 ht2 ht3
        · have hno' : x.isNone = false := by simpa using hno
          have HN : CNx1 x := fun e1 f1 e2 f2 e3 f3 W => isNo x e1 f1 e2 f2 e3 f3 W (by omega) (by omega) (by omega) false hno'
          have hrc : rightI x = chkI x := by unfold rightI; rw [if_neg hno]
          by_cases hci : chkI x = 0
          · have hri : rightI x = 0 := hrc.trans hci
            have HCI : CCIx0 x p1 q1 p2 q2 p3 q3 := fun W h => by
                          have := refCheck_any _ x W h
                          rw [hci] at this; exact this
            by_cases t0 : til = 0
            · have ht1 : (til != 0) = false := by simp [t0]
              have htb : tilBad now til = false := by unfold tilBad; rw [decide_eq_false_iff_not]; omega
              have hpe : putErr s now key x til = 0 := by rw [putErr_til hv hri, if_neg (by rw [htb]; decide)]
              obtain ⟨P, hP⟩ : ∃ P, putS s now key x til = P := ⟨_, rfl⟩
              obtain ⟨EP, hEP⟩ : ∃ EP, putE s now key x til = EP := ⟨_, rfl⟩
              have HP : CPx0 a c s now key x til p1 q1 p2 q2 p3 q3 P EP := fun W h h2 => put_good a c s now key _ x til W h hn h2 P EP hP hEP
              have HPO : CPOx0 a c s now key x til p1 q1 p2 q2 p3 q3 P EP := fun W h h2 => by
                              have := putOf_any a c s now key _ x til W h h2 hpe
                              rw [hP, hEP] at this; exact this
              have HSI1 : CSI1x0 P EP := fun ao co ap cp W h1 h2 => spaceIs_any ao ap co cp P EP W h1 h2 (fun h => hP.symm.trans (putS_err (fun h0 => h (hEP.symm.trans h0)))) (by
                              have := (putS_right s now key x til).n
                              rw [hP] at this; omega)
              exact tl_gok0_D0 a c s now key x til p w p1 q1 p2 q2 p3 q3 o CS d P EP Q EG hs hx HG HP HU HK HS HCA HCB HN HCI HL HPO HCG HSO HBG HCK HCS HOO HSI1 HTT HSI2 hsn hqn hg1 hdk ht1
            · have ht1 : (til != 0) = true := by simpa using t0
              by_cases t1 : til ≤ now
              · have ht2 : decide (til ≤ now) = true := decide_eq_true t1
                have htb : tilBad now til = true := by unfold tilBad; rw [decide_eq_true_eq]; omega
                have hpe : putE s now key x til = 3 := putE_of (by rw [putErr_til hv hri, if_pos htb]) (by decide)
                have HP : CPx1 a c s now key x til p1 q1 p2 q2 p3 q3 := fun W h h2 => put_bad a c s now key _ x til W h hn h2 3 hpe (by decide)
                have HSI1 : CSI1x1  := fun ao co W => spaceIs_any ao none co 0 [] 3 W (.inl rfl) (.inl rfl) (fun _ => rfl) (Nat.zero_le _)
                exact tl_ge0_D0 a c s now key x til p w p1 q1 p2 q2 p3 q3 o CS d Q EG hs hx HG HP HU HK HS HCA HCB HN HCI HL HCG HSO HBG HCK HCS HOO HSI1 HTT HSI2 hsn hqn hg1 hdk ht1 ht2
              · have ht2 : decide (til ≤ now) = false := decide_eq_false t1
                by_cases t2 : 1000000 < til
                · have ht3 : decide (1000000 < til) = true := decide_eq_true t2
                  have htb : tilBad now til = true := by unfold tilBad; rw [decide_eq_true_eq]; omega
                  have hpe : putE s now key x til = 3 := putE_of (by rw [putErr_til hv hri, if_pos htb]) (by decide)
                  have HP : CPx1 a c s now key x til p1 q1 p2 q2 p3 q3 := fun W h h2 => put_bad a c s now key _ x til W h hn h2 3 hpe (by decide)
                  have HSI1 : CSI1x1  := fun ao co W => spaceIs_any ao none co 0 [] 3 W (.inl rfl) (.inl rfl) (fun _ => rfl) (Nat.zero_le _)
                  exact tl_ge1_D0 a c s now key x til p w p1 q1 p2 q2 p3 q3 o CS d Q EG hs hx HG HP HU HK HS HCA HCB HN HCI HL HCG HSO HBG HCK HCS HOO HSI1 HTT HSI2 hsn hqn hg1 hdk ht1 ht2 ht3
                · have ht3 : decide (1000000 < til) = false := decide_eq_false t2
                  have htb : tilBad now til = false := by unfold tilBad; rw [decide_eq_false_iff_not]; omega
                  have hpe : putErr s now key x til = 0 := by rw [putErr_til hv hri, if_neg (by rw [htb]; decide)]
                  obtain ⟨P, hP⟩ : ∃ P, putS s now key x til = P := ⟨_, rfl⟩
                  obtain ⟨EP, hEP⟩ : ∃ EP, putE s now key x til = EP := ⟨_, rfl⟩
                  have HP : CPx0 a c s now key x til p1 q1 p2 q2 p3 q3 P EP := fun W h h2 => put_good a c s now key _ x til W h hn h2 P EP hP hEP
                  have HPO : CPOx0 a c s now key x til p1 q1 p2 q2 p3 q3 P EP := fun W h h2 => by
                                      have := putOf_any a c s now key _ x til W h h2 hpe
                                      rw [hP, hEP] at this; exact this
                  have HSI1 : CSI1x0 P EP := fun ao co ap cp W h1 h2 => spaceIs_any ao ap co cp P EP W h1 h2 (fun h => hP.symm.trans (putS_err (fun h0 => h (hEP.symm.trans h0)))) (by
                                      have := (putS_right s now key x til).n
                                      rw [hP] at this; omega)
                  exact tl_gok1_D0 a c s now key x til p w p1 q1 p2 q2 p3 q3 o CS d P EP Q EG hs hx HG HP HU HK HS HCA HCB HN HCI HL HPO HCG HSO HBG HCK HCS HOO HSI1 HTT HSI2 hsn hqn hg1 hdk ht1 ht2 ht3
          · obtain ⟨EI, hEI⟩ : ∃ EI, chkI x = EI := ⟨_, rfl⟩
            have hi0 : EI ≠ 0 := hEI ▸ hci
            have hi1 : (EI == 0) = false := by rw [beq_eq_false_iff_ne]; exact hi0
            have hpe : putE s now key x til = EI := putE_of (by
              unfold putErr
              rw [if_neg (by simp [hv]), hrc, if_pos hci, hEI]) hi0
            have HCI : CCIx1 x p1 q1 p2 q2 p3 q3 EI := fun W h => by
                          have := refCheck_any _ x W h
                          rw [hEI] at this; exact this
            have HP : CPx2 a c s now key x til p1 q1 p2 q2 p3 q3 EI := fun W h h2 => put_bad a c s now key _ x til W h hn h2 EI hpe hi0
            have HSI1 : CSI1x2 EI := fun ao co W => spaceIs_any ao none co 0 [] EI W (.inl rfl) (.inl rfl) (fun _ => rfl) (Nat.zero_le _)
            exact tl_c_D0 a c s now key x til p w p1 q1 p2 q2 p3 q3 o CS d EI Q EG hs hx HG HP HU HK HS HCA HCB HN HCI HL HCG HSO HBG HCK HCS HOO HSI1 HTT HSI2 hsn hqn hg1 hdk hi1
      | none =>
        have hdy : d = Ent.none := by rw [← hd]; unfold lookD; rw [hl]; rfl
        have hdk : (d.item.k == 0) = true := by rw [hdy]; rfl
        have HU : CUx1 a c s now key := fun W h => until_two a c s now key W h hn 0 5 (by unfold untilR; rw [if_pos hv, hl]; rfl) (by unfold untilE; rw [if_pos hv, hl]; rfl)
        by_cases hno : x.isNone = true
        · have hri : rightI x = 0 := by unfold rightI; rw [if_pos hno]
          have HN : CNx0 x := fun e1 f1 e2 f2 e3 f3 W => isNo x e1 f1 e2 f2 e3 f3 W (by omega) (by omega) (by omega) true hno
          by_cases t0 : til = 0
          · have ht1 : (til != 0) = false := by simp [t0]
            have htb : tilBad now til = false := by unfold tilBad; rw [decide_eq_false_iff_not]; omega
            have hpe : putErr s now key x til = 0 := by rw [putErr_til hv hri, if_neg (by rw [htb]; decide)]
            obtain ⟨P, hP⟩ : ∃ P, putS s now key x til = P := ⟨_, rfl⟩
            obtain ⟨EP, hEP⟩ : ∃ EP, putE s now key x til = EP := ⟨_, rfl⟩
            have HP : CPx0 a c s now key x til p1 q1 p2 q2 p3 q3 P EP := fun W h h2 => put_good a c s now key _ x til W h hn h2 P EP hP hEP
            have HPO : CPOx0 a c s now key x til p1 q1 p2 q2 p3 q3 P EP := fun W h h2 => by
                          have := putOf_any a c s now key _ x til W h h2 hpe
                          rw [hP, hEP] at this; exact this
            have HSI1 : CSI1x0 P EP := fun ao co ap cp W h1 h2 => spaceIs_any ao ap co cp P EP W h1 h2 (fun h => hP.symm.trans (putS_err (fun h0 => h (hEP.symm.trans h0)))) (by
                          have := (putS_right s now key x til).n
                          rw [hP] at this; omega)
            exact tl_nok0_N0 a c s now key x til p w p1 q1 p2 q2 p3 q3 o CS d P EP Q EG hs hx HG HP HU HK HS HCA HCB HN HL HPO HCG HSO HBG HCK HCS HOO HSI1 HTT HSI2 hsn hqn hg1 hdk ht1
          · have ht1 : (til != 0) = true := by simpa using t0
            by_cases t1 : til ≤ now
            · have ht2 : decide (til ≤ now) = true := decide_eq_true t1
              have htb : tilBad now til = true := by unfold tilBad; rw [decide_eq_true_eq]; omega
              have hpe : putE s now key x til = 3 := putE_of (by rw [putErr_til hv hri, if_pos htb]) (by decide)
              have HP : CPx1 a c s now key x til p1 q1 p2 q2 p3 q3 := fun W h h2 => put_bad a c s now key _ x til W h hn h2 3 hpe (by decide)
              have HSI1 : CSI1x1  := fun ao co W => spaceIs_any ao none co 0 [] 3 W (.inl rfl) (.inl rfl) (fun _ => rfl) (Nat.zero_le _)
              exact tl_ne0_N0 a c s now key x til p w p1 q1 p2 q2 p3 q3 o CS d Q EG hs hx HG HP HU HK HS HCA HCB HN HL HCG HSO HBG HCK HCS HOO HSI1 HTT HSI2 hsn hqn hg1 hdk ht1 ht2
            · have ht2 : decide (til ≤ now) = false := decide_eq_false t1
              by_cases t2 : 1000000 < til
              · have ht3 : decide (1000000 < til) = true := decide_eq_true t2
                have htb : tilBad now til = true := by unfold tilBad; rw [decide_eq_true_eq]; omega
                have hpe : putE s now key x til = 3 := putE_of (by rw [putErr_til hv hri, if_pos htb]) (by decide)
                have HP : CPx1 a c s now key x til p1 q1 p2 q2 p3 q3 := fun W h h2 => put_bad a c s now key _ x til W h hn h2 3 hpe (by decide)
                have HSI1 : CSI1x1  := fun ao co W => spaceIs_any ao none co 0 [] 3 W (.inl rfl) (.inl rfl) (fun _ => rfl) (Nat.zero_le _)
                exact tl_ne1_N0 a c s now key x til p w p1 q1 p2 q2 p3 q3 o CS d Q EG hs hx HG HP HU HK HS HCA HCB HN HL HCG HSO HBG HCK HCS HOO HSI1 HTT HSI2 hsn hqn hg1 hdk ht1 ht2 ht3
              · have ht3 : decide (1000000 < til) = false := decide_eq_false t2
                have htb : tilBad now til = false := by unfold tilBad; rw [decide_eq_false_iff_not]; omega
                have hpe : putErr s now key x til = 0 := by rw [putErr_til hv hri, if_neg (by rw [htb]; decide)]
                obtain ⟨P, hP⟩ : ∃ P, putS s now key x til = P := ⟨_, rfl⟩
                obtain ⟨EP, hEP⟩ : ∃ EP, putE s now key x til = EP := ⟨_, rfl⟩
                have HP : CPx0 a c s now key x til p1 q1 p2 q2 p3 q3 P EP := fun W h h2 => put_good a c s now key _ x til W h hn h2 P EP hP hEP
                have HPO : CPOx0 a c s now key x til p1 q1 p2 q2 p3 q3 P EP := fun W h h2 => by
                                  have := putOf_any a c s now key _ x til W h h2 hpe
                                  rw [hP, hEP] at this; exact this
                have HSI1 : CSI1x0 P EP := fun ao co ap cp W h1 h2 => spaceIs_any ao ap co cp P EP W h1 h2 (fun h => hP.symm.trans (putS_err (fun h0 => h (hEP.symm.trans h0)))) (by
                                  have := (putS_right s now key x til).n
                                  rw [hP] at this; omega)
                exact tl_nok1_N0 a c s now key x til p w p1 q1 p2 q2 p3 q3 o CS d P EP Q EG hs hx HG HP HU HK HS HCA HCB HN HL HPO HCG HSO HBG HCK HCS HOO HSI1 HTT HSI2 hsn hqn hg1 hdk ht1 ht2 ht3
        · have hno' : x.isNone = false := by simpa using hno
          have HN : CNx1 x := fun e1 f1 e2 f2 e3 f3 W => isNo x e1 f1 e2 f2 e3 f3 W (by omega) (by omega) (by omega) false hno'
          have hrc : rightI x = chkI x := by unfold rightI; rw [if_neg hno]
          by_cases hci : chkI x = 0
          · have hri : rightI x = 0 := hrc.trans hci
            have HCI : CCIx0 x p1 q1 p2 q2 p3 q3 := fun W h => by
                          have := refCheck_any _ x W h
                          rw [hci] at this; exact this
            by_cases t0 : til = 0
            · have ht1 : (til != 0) = false := by simp [t0]
              have htb : tilBad now til = false := by unfold tilBad; rw [decide_eq_false_iff_not]; omega
              have hpe : putErr s now key x til = 0 := by rw [putErr_til hv hri, if_neg (by rw [htb]; decide)]
              obtain ⟨P, hP⟩ : ∃ P, putS s now key x til = P := ⟨_, rfl⟩
              obtain ⟨EP, hEP⟩ : ∃ EP, putE s now key x til = EP := ⟨_, rfl⟩
              have HP : CPx0 a c s now key x til p1 q1 p2 q2 p3 q3 P EP := fun W h h2 => put_good a c s now key _ x til W h hn h2 P EP hP hEP
              have HPO : CPOx0 a c s now key x til p1 q1 p2 q2 p3 q3 P EP := fun W h h2 => by
                              have := putOf_any a c s now key _ x til W h h2 hpe
                              rw [hP, hEP] at this; exact this
              have HSI1 : CSI1x0 P EP := fun ao co ap cp W h1 h2 => spaceIs_any ao ap co cp P EP W h1 h2 (fun h => hP.symm.trans (putS_err (fun h0 => h (hEP.symm.trans h0)))) (by
                              have := (putS_right s now key x til).n
                              rw [hP] at this; omega)
              exact tl_gok0_N0 a c s now key x til p w p1 q1 p2 q2 p3 q3 o CS d P EP Q EG hs hx HG HP HU HK HS HCA HCB HN HCI HL HPO HCG HSO HBG HCK HCS HOO HSI1 HTT HSI2 hsn hqn hg1 hdk ht1
            · have ht1 : (til != 0) = true := by simpa using t0
              by_cases t1 : til ≤ now
              · have ht2 : decide (til ≤ now) = true := decide_eq_true t1
                have htb : tilBad now til = true := by unfold tilBad; rw [decide_eq_true_eq]; omega
                have hpe : putE s now key x til = 3 := putE_of (by rw [putErr_til hv hri, if_pos htb]) (by decide)
                have HP : CPx1 a c s now key x til p1 q1 p2 q2 p3 q3 := fun W h h2 => put_bad a c s now key _ x til W h hn h2 3 hpe (by decide)
                have HSI1 : CSI1x1  := fun ao co W => spaceIs_any ao none co 0 [] 3 W (.inl rfl) (.inl rfl) (fun _ => rfl) (Nat.zero_le _)
                exact tl_ge0_N0 a c s now key x til p w p1 q1 p2 q2 p3 q3 o CS d Q EG hs hx HG HP HU HK HS HCA HCB HN HCI HL HCG HSO HBG HCK HCS HOO HSI1 HTT HSI2 hsn hqn hg1 hdk ht1 ht2
              · have ht2 : decide (til ≤ now) = false := decide_eq_false t1
                by_cases t2 : 1000000 < til
                · have ht3 : decide (1000000 < til) = true := decide_eq_true t2
                  have htb : tilBad now til = true := by unfold tilBad; rw [decide_eq_true_eq]; omega
                  have hpe : putE s now key x til = 3 := putE_of (by rw [putErr_til hv hri, if_pos htb]) (by decide)
                  have HP : CPx1 a c s now key x til p1 q1 p2 q2 p3 q3 := fun W h h2 => put_bad a c s now key _ x til W h hn h2 3 hpe (by decide)
                  have HSI1 : CSI1x1  := fun ao co W => spaceIs_any ao none co 0 [] 3 W (.inl rfl) (.inl rfl) (fun _ => rfl) (Nat.zero_le _)
                  exact tl_ge1_N0 a c s now key x til p w p1 q1 p2 q2 p3 q3 o CS d Q EG hs hx HG HP HU HK HS HCA HCB HN HCI HL HCG HSO HBG HCK HCS HOO HSI1 HTT HSI2 hsn hqn hg1 hdk ht1 ht2 ht3
                · have ht3 : decide (1000000 < til) = false := decide_eq_false t2
                  have htb : tilBad now til = false := by unfold tilBad; rw [decide_eq_false_iff_not]; omega
                  have hpe : putErr s now key x til = 0 := by rw [putErr_til hv hri, if_neg (by rw [htb]; decide)]
                  obtain ⟨P, hP⟩ : ∃ P, putS s now key x til = P := ⟨_, rfl⟩
                  obtain ⟨EP, hEP⟩ : ∃ EP, putE s now key x til = EP := ⟨_, rfl⟩
                  have HP : CPx0 a c s now key x til p1 q1 p2 q2 p3 q3 P EP := fun W h h2 => put_good a c s now key _ x til W h hn h2 P EP hP hEP
                  have HPO : CPOx0 a c s now key x til p1 q1 p2 q2 p3 q3 P EP := fun W h h2 => by
                                      have := putOf_any a c s now key _ x til W h h2 hpe
                                      rw [hP, hEP] at this; exact this
                  have HSI1 : CSI1x0 P EP := fun ao co ap cp W h1 h2 => spaceIs_any ao ap co cp P EP W h1 h2 (fun h => hP.symm.trans (putS_err (fun h0 => h (hEP.symm.trans h0)))) (by
                                      have := (putS_right s now key x til).n
                                      rw [hP] at this; omega)
                  exact tl_gok1_N0 a c s now key x til p w p1 q1 p2 q2 p3 q3 o CS d P EP Q EG hs hx HG HP HU HK HS HCA HCB HN HCI HL HPO HCG HSO HBG HCK HCS HOO HSI1 HTT HSI2 hsn hqn hg1 hdk ht1 ht2 ht3
          · obtain ⟨EI, hEI⟩ : ∃ EI, chkI x = EI := ⟨_, rfl⟩
            have hi0 : EI ≠ 0 := hEI ▸ hci
            have hi1 : (EI == 0) = false := by rw [beq_eq_false_iff_ne]; exact hi0
            have hpe : putE s now key x til = EI := putE_of (by
              unfold putErr
              rw [if_neg (by simp [hv]), hrc, if_pos hci, hEI]) hi0
            have HCI : CCIx1 x p1 q1 p2 q2 p3 q3 EI := fun W h => by
                          have := refCheck_any _ x W h
                          rw [hEI] at this; exact this
            have HP : CPx2 a c s now key x til p1 q1 p2 q2 p3 q3 EI := fun W h h2 => put_bad a c s now key _ x til W h hn h2 EI hpe hi0
            have HSI1 : CSI1x2 EI := fun ao co W => spaceIs_any ao none co 0 [] EI W (.inl rfl) (.inl rfl) (fun _ => rfl) (Nat.zero_le _)
            exact tl_c_N0 a c s now key x til p w p1 q1 p2 q2 p3 q3 o CS d EI Q EG hs hx HG HP HU HK HS HCA HCB HN HCI HL HCG HSO HBG HCK HCS HOO HSI1 HTT HSI2 hsn hqn hg1 hdk hi1
  · obtain ⟨EV, hEV⟩ : ∃ EV, chkKey s now key = EV := ⟨_, rfl⟩
    have hv0 : EV ≠ 0 := hEV ▸ hv
    have hv1 : (EV == 0) = false := by rw [beq_eq_false_iff_ne]; exact hv0
    have hgo : getR s now key = Itm.none := by unfold getR; rw [if_neg hv]
    obtain ⟨o, ho⟩ : ∃ o, Itm.none = o := ⟨_, rfl⟩
    rw [ho] at hgo
    have hpe : putE s now key x til = EV := putE_of (by unfold putErr; rw [if_pos hv, hEV]) hv0
    have HG : CGx1 a c s now key o EV := fun W h => get_item a c s now key W h hn o EV hgo hEV
    have HP : CPx3 a c s now key x til p1 q1 p2 q2 p3 q3 EV := fun W h h2 => put_bad a c s now key _ x til W h hn h2 EV hpe hv0
    have HU : CUx2 a c s now key EV := fun W h => until_two a c s now key W h hn 0 EV (by unfold untilR; rw [if_neg hv]) (by unfold untilE; rw [if_neg hv, hEV])
    have HCA : CCAx1 a c s now key EV := fun W h => by
          have := refAt_any a c s now key W h hn
          rw [hEV] at this; exact this
    have HOZ : COZx0 o := fun v W h => by
          rw [← ho] at h
          exact items_same h ((OwnItem.nothing 0 W).is none_rightI)
    have HSI1 : CSI1x3 EV := fun ao co W => spaceIs_any ao none co 0 [] EV W (.inl rfl) (.inl rfl) (fun _ => rfl) (Nat.zero_le _)
    by_cases hu : chkAt s now = 0
    · have hr := spRight (chkSp_chkAt hu).1
      have hsn := hr.n
      have hn6 : s.length ≤ 1000000 := by omega
      obtain ⟨Q, hQ⟩ : ∃ Q, sweepS s now = Q := ⟨_, rfl⟩
      have hqn : Q.length ≤ 16 := by
        rw [← hQ]; exact (hr.filter _).n
      have hsR : sweepR s now = Q := by unfold sweepR; rw [if_pos hu, hQ]
      have hsN : sweepN s now = ((s.length : Nat) : Int) - ((Q.length : Nat) : Int) := by unfold sweepN; rw [if_pos hu, hQ]
      have HS : CSx0 a c s now Q := fun W h => sweep_space a c s now W h hn Q _ 0 hsR hsN hu
      have HSO : CSOx0 a c s now Q := fun W h => by
              have := sweepOf_any a c s now W h hn6
              rw [hQ] at this; exact this
      have HSI2 : CSI2x0 Q := fun aq cq ar cr W h1 h2 => spaceIs_any aq ar cq cr Q 0 W h1 h2 (fun h => absurd rfl h) (by omega)
      have HCB : CCBx0 a c s now := fun W h => by
              have := refAt_any a c s now ⟨#[]⟩ W h hn
              rw [chkKey_empty, hu] at this; exact this
      by_cases hg : checkG p = 0
      · obtain ⟨L, hL⟩ : ∃ L, keysE s now p = L := ⟨_, rfl⟩
        have hln : L.length ≤ 16 := by
          rw [← hL]; have := keysE_len s now p; omega
        have HK : CKx1 a c s now p L := fun W h => keys_texts a c s now p W h hn L 0 (by unfold keysR; rw [if_pos hu, if_pos hg, hL]) (by unfold keysC; rw [if_pos hu, hg])
        have HCG : CCGx1 p := fun W => by
                  have := checkGlob_any p W
                  rw [hg] at this; exact this
        have HKO : CKOx0 a c s now p L := fun W h => by
                  have := keysOf_any a c s now p W h hn6 hg (fun y hy => (chkE_right (hr.e y hy)).1)
                  rw [hL] at this; exact this
        have HTT : CTTx1 L := fun ak ck al cl W h1 h2 => texts_same h1 h2 (by omega)
        exact tl_v1 a c s now key x til p w p1 q1 p2 q2 p3 q3 o CS EV Q L hs hx HG HP HU HK HS HCA HCB HCG HKO HSO HBG HCK HCS HOZ HSI1 HTT HSI2 hv1 hsn hqn
      · obtain ⟨EG, hEG⟩ : ∃ EG, checkG p = EG := ⟨_, rfl⟩
        have hg1 : (EG == 0) = false := by rw [beq_eq_false_iff_ne, ← hEG]; exact hg
        have HK : CKx0 a c s now p EG := fun W h => keys_bad a c s now p W h hn EG (by unfold keysR; rw [if_pos hu, if_neg hg]) (by unfold keysC; rw [if_pos hu, hEG])
        have HCG : CCGx0 p EG := fun W => by
                  have := checkGlob_any p W
                  rw [hEG] at this; exact this
        have HTT : CTTx0  := fun ak ck W => texts_same (L := []) (.inl rfl) (.inl rfl) (Nat.zero_le _)
        exact tl_v0 a c s now key x til p w p1 q1 p2 q2 p3 q3 o CS EV Q EG hs hx HG HP HU HK HS HCA HCB HCG HSO HBG HCK HCS HOZ HSI1 HTT HSI2 hv1 hsn hqn hg1
    · have hue : chkAt s now = EV := by
        rw [← hEV]; unfold chkKey; rw [if_pos hu]
      have HS : CSx1 a c s now EV := fun W h => sweep_bad a c s now W h hn EV (by unfold sweepR; rw [if_neg hu]) (by unfold sweepN; rw [if_neg hu]) hue
      have HCB : CCBx1 a c s now EV := fun W h => by
              have := refAt_any a c s now ⟨#[]⟩ W h hn
              rw [chkKey_empty, hue] at this; exact this
      have HK : CKx2 a c s now p EV := fun W h => keys_bad a c s now p W h hn EV (by unfold keysR; rw [if_neg hu]) (by unfold keysC; rw [if_neg hu, hue])
      have HTT : CTTx0  := fun ak ck W => texts_same (L := []) (.inl rfl) (.inl rfl) (Nat.zero_le _)
      have HSI2 : CSI2x1 EV := fun aq cq W => spaceIs_any aq none cq 0 [] EV W (.inl rfl) (.inl rfl) (fun _ => rfl) (Nat.zero_le _)
      exact tl_u a c s now key x til p w p1 q1 p2 q2 p3 q3 o CS EV hs hx HG HP HU HK HS HCA HCB HBG HCK HCS HOZ HSI1 HTT HSI2 hv1
end Go.Proofs.YtcidoodaiimhfaaGreat
