/- WALKS of the reference's lists: RemoveOf. -/
import Derived.Test.YtolpmaapdkhigacRLst2
import Derived.Test.YtolpmaapdkhigacRAs
import Derived.Deep.RegionHeld3
import Derived.Laws.OwnMore
import Derived.Handy
namespace Go.Proofs.Ytolpmaapdkhigac
open Go.RowKit

/-- texts as an item of a kind: nothing, if there are none -/
def kindI (k : Int) (l : List ByteArray) : Itm := if l = [] then Itm.none else ⟨k, ⟨#[]⟩, l, [], []⟩
theorem kindI_two (l : List ByteArray) : kindI 2 l = lstI l := rfl
theorem filled_item {p : World → Prop} {ao : Option Addr} {cp : Nat} {K : List ByteArray} (kind : Int) (hT : ∀ W, p W → TextsAt W ao K) (hz : ∀ t ∈ K, t.size ≤ maxLen) (hl : K.length ≤ 281474976710656) :
    ∃ (fk : Int) (fa : Option Addr) (fn fc : Nat), (∀ W, Calls Try.prog 31 #[.agg #[.int .i64 kind, .string ⟨#[]⟩, .slice ao K.length cp, .slice none 0 0, .slice none 0 0]] W fun e w' => e = .returned (.agg #[.int .i64 fk, .string ⟨#[]⟩, .slice fa fn fc, .slice none 0 0, .slice none 0 0]) ∧ Below W.heap.size W w') ∧ ∀ W, p W → ItemIs W (.agg #[.int .i64 fk, .string ⟨#[]⟩, .slice fa fn fc, .slice none 0 0, .slice none 0 0]) (kindI kind K) := by
  by_cases h0 : K = []
  · subst h0
    refine ⟨0, none, 0, 0, fun W => ?_, fun w' _ => zero_is w'⟩
    have := filled_any kind ao 0 cp W (by omega)
    rw [if_pos rfl] at this
    exact this
  · refine ⟨kind, ao, K.length, cp, fun W => ?_, fun w' hw => ?_⟩
    · have := filled_any kind ao K.length cp W hl
      rw [if_neg (fun e => h0 (List.eq_nil_of_length_eq_zero e))] at this
      exact this
    · rw [kindI, if_neg h0]
      exact ⟨⟨ao, cp, none, 0, none, 0, rfl, hT w' hw, .inl rfl, .inl rfl⟩, (show (0 : Nat) ≤ maxLen by simp), hz, by simp, by simp, hl, by simp, by simp⟩
theorem wrap_small (a : Int) (h1 : -9223372036854775808 ≤ a) (h2 : a ≤ 9223372036854775807) : IntKind.i64.wrap a = a := by
  simp only [IntKind.wrap, IntKind.bits, IntKind.signed]
  first | omega | (simp; omega)
def lessK (l m : List ByteArray) : List ByteArray := keptTo (fun _ t => hasT m t) l l.length
def remofI (x : Itm) (kind : Int) (l : List ByteArray) : Itm := if asI x kind = 0 then kindI kind (lessK x.l l) else Itm.none
def remofN (x : Itm) (kind : Int) (l : List ByteArray) : Int := if asI x kind = 0 then ((x.l.length : Nat) : Int) - (((lessK x.l l).length : Nat) : Int) else 0
set_option maxRecDepth 100000 in
set_option maxHeartbeats 4000000 in
theorem removeOf_any (v : Value) (x : Itm) (kind : Int) (al : Option Addr) (cl : Nat) (l : List ByteArray) (w : World) (h : ItemIs w v x) (hl : TextsAt w al l) (hll : l.length ≤ 281474976710656) (h24 : asI x kind = 0 → x.l.length ≤ 24) :
    Calls Try.prog 12 #[v, .int .i64 kind, .slice al l.length cl] w fun e w' => ∃ u, e = .returned (.tuple #[u, .int .i64 (remofN x kind l), .int .i64 (asI x kind)]) ∧ ItemFrom w.heap.size w' u (remofI x kind l) ∧ Below w.heap.size w w' := by
  have HC : Hid (∀ W, Below w.heap.size w W → Calls Try.prog 13 #[v, .int .i64 kind] W fun e w' => e = .returned (.int .i64 (asI x kind)) ∧ Below W.heap.size W w') := fun W hW => refAs_any v x kind W (h.below hW)
  obtain ⟨⟨a1, c1, a2, c2, a3, c3, rfl, hx1, -, -⟩, tz, lz, -, -, -, -, -⟩ := h
  by_cases h0 : asI x kind = 0
  · have hx24 := h24 h0
    rw [remofI, remofN, if_pos h0, if_pos h0]
    rw [h0] at HC
    have HL : Hid (∀ W, Below w.heap.size w W → Calls Try.prog 32 #[.slice a1 x.l.length c1, .slice al l.length cl] W fun e w' => ∃ v, e = .returned v ∧ w'.ownsRow W.heap.size 9 1 v (lessK x.l l).length (strs (lessK x.l l)) ∧ Below W.heap.size W w') := fun W hW => less_any a1 c1 x.l W (hx1.below hW) (by omega) al cl l (hl.below hW) hll
    have HKZ : Hid (∀ t ∈ lessK x.l l, t.size ≤ maxLen) := fun t ht => lz t (keptTo_mem (Nat.le_refl _) t ht)
    have hKl : (lessK x.l l).length ≤ x.l.length := keptTo_len _ _ _
    rw [h0]
    clear h0 h24 hx1 hl lz
    generalize lessK x.l l = K at *
    generalize x.l = L at *
    generalize x.t = t at *
    generalize x.k = k at *
    generalize x.p.length = n2 at *
    generalize x.s.length = n3 at *
    go_enter Try.func12, Try.ntmps12
    go_wp2_with fail
    refine (HC.out _ (((Below.refl _ w).alloc (Nat.le_refl _) _).alloc (by simp) _)).mono ?_
    rintro e w1 ⟨rfl, hb1⟩
    obtain ⟨hc, hf⟩ := bcell hb1
    have hz : w.heap.size + 1 < w1.heap.size := by have := hb1.size; simp at this; omega
    have hy : w.heap.size < w1.heap.size := by omega
    have hB1 : Below w.heap.size w w1 := (((Below.refl _ w).alloc (Nat.le_refl _) _).alloc (by simp) _).trans (hb1.mono (by simp; omega))
    go_wp2_with fail
    refine (HL.out w1 hB1).mono ?_
    rintro e w2 ⟨u, rfl, hown, hb2⟩
    obtain ⟨ao, cp, rfl⟩ := slice_own hown
    have hB2 : Below w.heap.size w w2 := hB1.trans (hb2.mono hB1.size)
    have hz1 := hB1.size
    have hz2 := hb2.size
    obtain ⟨fk, fa, fn, fc, hF, hI⟩ := filled_item (p := fun w' => ∀ g o u, w1.heap.size ≤ g → w2.cell? ⟨g, o, none⟩ = some u → w'.cell? ⟨g, o, none⟩ = some u) (cp := cp) kind (fun w' hw => texts_from hown hw) HKZ.out (by omega)
    have HF := hide hF
    have HI := hide hI
    clear hF hI hown HC HL HKZ
    have HBX : Hid (∀ W, Below w1.heap.size w1 W → (W.cell? ⟨w.heap.size + 1, 0, none⟩ = some (.int .i64 0) ∧ W.cell? ⟨w.heap.size + 1, 1, none⟩ = some (.string ⟨#[]⟩) ∧ W.cell? ⟨w.heap.size + 1, 2, none⟩ = some (.slice none 0 0) ∧ W.cell? ⟨w.heap.size + 1, 3, none⟩ = some (.slice none 0 0) ∧ W.cell? ⟨w.heap.size + 1, 4, none⟩ = some (.slice none 0 0)) ∧ (∀ j, W.frozen? ⟨w.heap.size + 1, j, none⟩ = false) ∧ W.cell? ⟨w.heap.size, 2, none⟩ = some (.slice a1 L.length c1)) := fun W hW =>
      ⟨⟨(hW.cell (p := ⟨w.heap.size + 1, 0, none⟩) hz).trans ((hc _ _ (by simp)).trans (by simp [go_sem])), (hW.cell (p := ⟨w.heap.size + 1, 1, none⟩) hz).trans ((hc _ _ (by simp)).trans (by simp [go_sem])), (hW.cell (p := ⟨w.heap.size + 1, 2, none⟩) hz).trans ((hc _ _ (by simp)).trans (by simp [go_sem])), (hW.cell (p := ⟨w.heap.size + 1, 3, none⟩) hz).trans ((hc _ _ (by simp)).trans (by simp [go_sem])), (hW.cell (p := ⟨w.heap.size + 1, 4, none⟩) hz).trans ((hc _ _ (by simp)).trans (by simp [go_sem]))⟩, fun j => (hW.frozen (p := ⟨w.heap.size + 1, j, none⟩) hz).trans ((hf _ _ (by simp)).trans (by simp [go_sem])), (hW.cell (p := ⟨w.heap.size, 2, none⟩) hy).trans ((hc _ _ (by simp; omega)).trans (by simp [go_sem]))⟩
    obtain ⟨-, -, x2⟩ := HBX.out w2 hb2
    have hb2' : Below w1.heap.size w1 w2.drew := hb2.drew
    clear hc hf hb1
    have n1 : w2.heap.size ≠ w.heap.size + 1 := by omega
    have n2' : w.heap.size + 1 ≠ w2.heap.size := by omega
    have hwr := wrap_small (((L.length : Nat) : Int) - ((K.length : Nat) : Int)) (by omega) (by omega)
    go_wp2_with fail
    go_region_held3 (fun w' => w'.cell? ⟨w.heap.size, 2, none⟩ = some (.slice a1 L.length c1)) (go_keep)
      ((go_at_call 31; refine (HF.out _).mono ?_; rintro e w3 ⟨rfl, hb3⟩; have hb3' : Below w1.heap.size w1 w3 := hb2'.trans (hb3.mono hz2); obtain ⟨⟨b0, b1, b2, b3, b4⟩, fz, x3⟩ := HBX.out w3 hb3'; have fz0 := fz 0; have fz1 := fz 1; have fz2 := fz 2; have fz3 := fz 3; have fz4 := fz 4))
    all_goals
      go_wp2_with fail
      refine bodyPost_ret (v := .tuple #[.agg #[.int .i64 fk, .string ⟨#[]⟩, .slice fa fn fc, .slice none 0 0, .slice none 0 0], .int .i64 (((L.length : Nat) : Int) - ((K.length : Nat) : Int)), .int .i64 0]) (by simp [results, Try.results12, go_sem, b0, b1, b2, b3, b4]) rfl ⟨_, rfl, ?_, ?_⟩
      · exact fun w'' hw => HI.out w'' (fun g' o' u' hg hu => hw g' o' u' (by omega) ((five_apart w3 (w.heap.size + 1) _ _ _ _ _ g' o' (by omega)).trans ((hb3.cell (p := ⟨g', o', none⟩) (World.block_lt_of_cell? w2 _ hu)).trans hu)))
      · have hb3'' := hB1.trans (hb3'.mono hz1)
        go_grown
  · rw [remofI, remofN, if_neg h0, if_neg h0]
    have h0' : (asI x kind == 0) = false := by rw [beq_eq_false_iff_ne]; exact h0
    clear hx1 hl h24
    generalize asI x kind = E at *
    generalize x.l = L at *
    generalize x.t = t at *
    generalize x.k = k at *
    generalize x.p.length = n2 at *
    generalize x.s.length = n3 at *
    go_enter Try.func12, Try.ntmps12
    go_wp2_with fail
    refine (HC.out _ (((Below.refl _ w).alloc (Nat.le_refl _) _).alloc (by simp) _)).mono ?_
    rintro e w1 ⟨rfl, hb1⟩
    obtain ⟨hc, hf⟩ := bcell hb1
    have hz : w.heap.size + 1 < w1.heap.size := by have := hb1.size; simp at this; omega
    have hy : w.heap.size < w1.heap.size := by omega
    have hB1 : Below w.heap.size w w1 := (((Below.refl _ w).alloc (Nat.le_refl _) _).alloc (by simp) _).trans (hb1.mono (by simp; omega))
    go_wp2_with fail
    refine bodyPost_ret (v := .tuple #[.agg #[.int .i64 0, .string ⟨#[]⟩, .slice none 0 0, .slice none 0 0, .slice none 0 0], .int .i64 0, .int .i64 E]) (by simp [results, Try.results12, go_sem, hc]) rfl ⟨_, rfl, fun w'' _ => zero_is w'', ?_⟩
    go_grown
end Go.Proofs.Ytolpmaapdkhigac
