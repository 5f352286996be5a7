/- WALK of replyBegun, and what a decoded reply is. -/
import Derived.Test.YtolpmaapdkhigaaDoorBack4
import Derived.Test.YtolpmaapdkhigaaDoorDec8
import Derived.Handy
namespace Go.Proofs.YtolpmaapdkhigaaDoor
open Go.RowKit

/-- a reply that lies in memory -/
structure Top where
  k : Int
  t : ByteArray
  n : Int
  a : Option Addr
  cap : Nat
  rs : List Rep
def Top.val (x : Top) : Value := .agg #[.int .i64 x.k, .string x.t, .int .i64 x.n, .slice x.a x.rs.length x.cap]
def Top.check (x : Top) : Int := pCheck x.k x.t x.n x.rs
def Top.enc (x : Top) : List UInt8 := pEnc x.k x.t x.n x.rs
def Top.got (x : Top) : Got := pGot x.k x.t x.n x.rs
structure Top.Lies (x : Top) (w : World) : Prop where
  list : ListAt w x.a x.rs
  small : x.t.size ≤ maxLen
theorem ListAt.below {w w' : World} {a : Option Addr} {rs : List Rep} (h : ListAt w a rs) (hb : Below w.heap.size w w') : ListAt w' a rs := by
  rcases h with h | ⟨b, off, ha, hr⟩
  · exact .inl h
  · exact .inr ⟨b, off, ha, hr.kept (Kept.of_below hb (fun _ => False)) (fun e => e)⟩
theorem Top.Lies.below {x : Top} {w w' : World} (h : x.Lies w) (hb : Below w.heap.size w w') : x.Lies w' := ⟨h.list.below hb, h.small⟩

def Got.fine : Got → Prop
  | .one r => r.k ≠ 6
  | .many _ => True
theorem mk_data (l : List UInt8) : (⟨l.toArray⟩ : ByteArray).data.toList = l := by simp
theorem got_view {base : Nat} {w : World} {v : Value} {g : Got} (h : GotVal base w v g) (hf : g.fine) (hs : ∀ r ∈ g.all, r.t.length ≤ maxLen) :
    ∃ x : Top, v = x.val ∧ x.Lies w ∧ x.got = g ∧ x.check = gotCheck g ∧ x.enc = gotEnc g := by
  cases g with
  | one r =>
    refine ⟨⟨r.k, ⟨r.t.toArray⟩, r.n, none, 0, []⟩, h, ⟨.inl rfl, ?_⟩, ?_, rfl, ?_⟩
    · simp only [size_mk]; exact hs r (by simp [Got.all])
    · simp only [Top.got, pGot]
      rw [if_neg hf]
    · simp only [Top.enc, pEnc, gotEnc]
      rw [if_neg hf]
  | many rs =>
    obtain ⟨V, h1, h2⟩ := h
    obtain ⟨a, c, rfl⟩ := rowSlice h2
    refine ⟨⟨6, ⟨#[]⟩, 0, a, c, rs.map One.rep⟩, ?_, ⟨listAt_of_ones h2 hs, by simp only; decide⟩, ?_, rfl, ?_⟩
    · simp only [Top.val, List.length_map]
      exact h1
    · simp only [Top.got, pGot, if_true, List.map_map]
      congr 1
      have : (Rep.one ∘ One.rep) = id := funext fun r => by simp [Rep.one, One.rep]
      rw [this, List.map_id]
    · simp [Top.enc, pEnc, gotEnc]
theorem top_fine {x : Top} : x.got.fine := by
  unfold Top.got pGot
  split
  · trivial
  · rename_i h; exact h
theorem ba_inj {a b : ByteArray} (h : a.data.toList = b.data.toList) : a = b := by
  rw [ba_ext (a := a) rfl, ba_ext (a := b) rfl, h]

theorem same_any (x y : Top) (w : World) (hx : x.Lies w) (hy : y.Lies w) (cx : x.check = 0) (cy : y.check = 0) (hg : x.got = y.got) :
    Calls Tryd.prog 14 #[x.val, y.val] w fun e w' => e = .returned (.bool true) ∧ Below w.heap.size w w' := by
  obtain ⟨k, t, n, a, cap, rs⟩ := x
  obtain ⟨k', t', n', a', cap', rs'⟩ := y
  simp only [Top.check] at cx cy
  simp only [Top.got, pGot] at hg
  by_cases hk : k = 6
  · subst hk
    rw [if_pos rfl] at hg
    by_cases hk' : k' = 6
    · subst hk'
      rw [if_pos rfl] at hg
      simp at hg
      obtain ⟨x1, rfl, x3, x4⟩ := check_list cx
      obtain ⟨y1, rfl, y3, y4⟩ := check_list cy
      obtain rfl : t = t' := ba_inj (by rw [toList_nil x1, toList_nil y1])
      have hl : rs.length = rs'.length := by have := congrArg List.length hg; simpa using this
      simp only [Top.val]
      rcases hx.list with hx0 | ⟨b1, o1, ha1, hr1⟩
      · simp only at hx0
        subst hx0
        have : rs' = [] := List.eq_nil_of_length_eq_zero (by simpa using hl.symm)
        subst this
        exact same_zero 6 t 0 a a' cap cap' w
      · rcases hy.list with hy0 | ⟨b2, o2, ha2, hr2⟩
        · simp only at hy0
          subst hy0
          have : rs = [] := List.eq_nil_of_length_eq_zero (by simpa using hl)
          subst this
          exact same_zero 6 t 0 a a' cap cap' w
        · simp only at ha1 ha2 hr1 hr2
          subst ha1 ha2
          rw [← hl]
          refine same_list 6 t 0 b1 o1 cap b2 o2 cap' rs.length rs rs' w hr1 hr2 rfl hl.symm x3 (fun i g1 g2 => ?_)
          have he : (rs.map Rep.one)[i]? = (rs'.map Rep.one)[i]? := by rw [hg]
          rw [List.getElem?_eq_getElem (by simpa using g1), List.getElem?_eq_getElem (by simpa using g2)] at he
          simp [Rep.one] at he
          refine ⟨he.1, ba_inj (by rw [he.2.1]), he.2.2, ?_, ?_⟩
          · exact (check1_parts (first_all rs x4 _ (List.getElem_mem g1))).2.2.1
          · exact (check1_parts (first_all rs' y4 _ (List.getElem_mem g2))).2.2.1
    · rw [if_neg hk'] at hg
      simp at hg
  · rw [if_neg hk] at hg
    by_cases hk' : k' = 6
    · rw [if_pos hk'] at hg
      simp at hg
    · rw [if_neg hk'] at hg
      simp at hg
      obtain ⟨rfl, h2, rfl⟩ := hg
      obtain rfl : t = t' := ba_inj (by rw [h2])
      rw [pCheck, if_neg hk] at cx cy
      have l1 := (check1_parts cx).2.2.1
      have l2 := (check1_parts cy).2.2.1
      simp only [Top.val]
      rw [l1, l2]
      exact same_zero k t n a a' cap cap' w

theorem encTop_ok (x : Top) (w : World) (he : Env w) (hx : x.Lies w) (hc : x.check = 0) :
    Calls Tryd.prog 7 #[x.val] w fun e w' => e = .returned (.tuple #[.string ⟨x.enc.toArray⟩, .int .i64 0]) ∧ Below w.heap.size w w' :=
  encode_ok x.k x.t x.n x.a x.cap x.rs w he hx.small hx.list hc
theorem encTop_err (x : Top) (w : World) (hx : x.Lies w) (hc : ¬ x.check = 0) :
    Calls Tryd.prog 7 #[x.val] w fun e w' => e = .returned (.tuple #[.string ⟨#[]⟩, .int .i64 x.check]) ∧ Below w.heap.size w w' :=
  encode_err x.t x.k x.n x.a x.cap x.rs w hx.small hx.list hc
theorem checkTop (x : Top) (w : World) (hx : x.Lies w) :
    Calls Tryd.prog 13 #[x.val] w fun e w' => e = .returned (.int .i64 x.check) ∧ Below w.heap.size w w' :=
  check_any x.k x.t x.n x.a x.cap x.rs w hx.small hx.list
theorem enc_len {x : Top} {w : World} (he : Env w) (hc : x.check = 0) : x.enc.length ≤ 40000 := pEnc_len he hc
/-- what was encoded is decoded as it was -/
theorem decTop (x : Top) (w : World) (he : Env w) (hc : x.check = 0) :
    Calls Tryd.prog 8 #[.string ⟨x.enc.toArray⟩] w fun e w' => ∃ y : Top, e = .returned (.tuple #[y.val, .int .i64 0]) ∧ y.Lies w' ∧ y.got = x.got ∧ y.check = 0 ∧ Below w.heap.size w w' := by
  have hl := enc_len he hc
  refine (decode_any ⟨x.enc.toArray⟩ w (by rw [size_mk]; omega) he).mono ?_
  rintro e w' ⟨hb, _, hok⟩
  have hp : pAll (⟨x.enc.toArray⟩ : ByteArray).data.toList = .ok x.got := by rw [mk_data]; exact all_mk hc
  have hgc : gotCheck x.got = 0 := got_check hc
  obtain ⟨v, rfl, hv⟩ := (hok x.got hp).1 hgc
  obtain ⟨y, rfl, h2, h3, h4, _⟩ := got_view hv top_fine (fun r hr => by have := pAll_size hp r hr; rw [mk_data] at this; unfold maxLen; omega)
  exact ⟨y, rfl, h2, h3, h4.trans hgc, hb⟩
end Go.Proofs.YtolpmaapdkhigaaDoor
