/- WALK of the reference's reading of bytes. -/
import Derived.Test.YtolpmaapdkhigaaDoorTells12
import Derived.Test.YtolpmaapdkhigaaDoorTells5
import Derived.Test.YtolpmaapdkhigaaDoorBack7
import Derived.Handy
namespace Go.Proofs.YtolpmaapdkhigaaDoor
open Go.RowKit

/-- what the reading of all bytes answers: nothing that is right, or all of it -/
def TopPost (s : ByteArray) (w : World) (e : Ending) (w' : World) : Prop :=
  Below w.heap.size w w' ∧
    ((∃ n k t m a len cap z ok, pAll s.data.toList = .error n ∧ e = .returned (.tuple #[.agg #[.int .i64 k, .string t, .int .i64 m, .slice a len cap], .int .i64 z, .bool ok]) ∧ (ok = false ∨ z < s.size)) ∨
     (∃ g x, pAll s.data.toList = .ok g ∧ e = .returned (.tuple #[Top.val x, .int .i64 (s.size : Int), .bool true]) ∧ Top.Lies x w' ∧ Top.check x = gotCheck g ∧ GotVal w.heap.size w' (Top.val x) g))
theorem pMany_suffix : ∀ (n : Nat) (l : List UInt8) (rs : List One) (q : List UInt8), pMany n l = .ok (rs, q) → q <:+ l
  | 0, l, rs, q, h => by simp [pMany] at h; rw [h.2]; exact List.suffix_refl _
  | n + 1, [], rs, q, h => by simp [pMany] at h
  | n + 1, c :: l, rs, q, h => by
    rw [pMany] at h
    split at h
    · simp at h
    · rename_i r q1 he
      split at h
      · simp at h
      · rename_i rs' q2 he2
        simp at h
        obtain ⟨rfl, rfl⟩ := h
        exact ((pMany_suffix n q1 rs' _ he2).trans (pSingle_suffix he)).trans (List.suffix_cons c l)
theorem pSingle_len {c : UInt8} {l q : List UInt8} {r : One} (h : pSingle c l = .ok (r, q)) : q.length ≤ l.length := (pSingle_size h).2

theorem refTop (s : ByteArray) (w : World) (hs : s.size ≤ 281474976710656) :
    Calls Tryd.prog 29 #[.string s, .int .i64 0, .bool true] w (TopPost s w) := by
  have big : ∀ {g : Got}, pAll s.data.toList = .ok g → ∀ r ∈ g.all, r.t.length ≤ maxLen := fun hp r hr => by
    have := pAll_size hp r hr
    rw [size_list] at this
    unfold maxLen
    omega
  cases hl : s.data.toList with
  | nil =>
    have hz : s.size = 0 := by rw [← size_list, hl]; rfl
    have := refEmpty s true w
    rw [hz] at this
    refine this.mono ?_
    rintro e w' ⟨rfl, hb⟩
    exact ⟨hb, .inl ⟨8, _, _, _, _, _, _, _, _, by rw [hl]; rfl, rfl, .inl rfl⟩⟩
  | cons c l =>
    have hsz : s.size = l.length + 1 := by rw [← size_list, hl]; rfl
    have hh : Here s c l 0 := by
      have := here_of (s := s) (c := c) (l := l) (by rw [hl]; exact List.suffix_refl _)
      rwa [show s.size - (l.length + 1) = 0 by omega] at this
    have hsuf : l <:+ s.data.toList := hh.suf
    by_cases h42 : c.toNat = 42
    · have hc : c = 42 := UInt8.toNat_inj.mp (by simpa using h42)
      refine (refMany s c l 0 w hh hs h42).mono ?_
      rintro e w' ⟨hb, hok, herr⟩
      refine ⟨hb, ?_⟩
      cases hp : pList l with
      | error n =>
        obtain ⟨k, z, a, len, cap, rfl⟩ := herr n hp
        exact .inl ⟨n, _, _, _, _, _, _, _, _, by rw [hl, pAll, if_pos hc, hp], rfl, .inl rfl⟩
      | ok y =>
        obtain ⟨rs, q⟩ := y
        obtain ⟨V, rfl, hown⟩ := hok rs q hp
        obtain ⟨a, cp, rfl⟩ := rowSlice hown
        cases q with
        | nil =>
          have hpa : pAll s.data.toList = .ok (.many rs) := by rw [hl, pAll, if_pos hc, hp]; rfl
          have hgv : GotVal w.heap.size w' (.agg #[.int .i64 6, .string ⟨#[]⟩, .int .i64 0, .slice a rs.length cp]) (.many rs) := ⟨_, rfl, hown⟩
          obtain ⟨x, hx1, hx2, hx3, hx4, _⟩ := got_view hgv trivial (big hpa)
          refine .inr ⟨.many rs, x, hpa, ?_, hx2, hx4, by rw [← hx1]; exact hgv⟩
          rw [← hx1]
          simp
        | cons d q =>
          have hls : (d :: q).length ≤ s.size := by
            have h1 : (d :: q) <:+ l := by
              unfold pList at hp
              split at hp
              · simp at hp
              · rename_i m q1 he
                split at hp
                · simp at hp
                · exact (pMany_suffix _ _ _ _ hp).trans (pNumber_bounds he).2.2.1
            have := h1.length_le
            omega
          exact .inl ⟨1, _, _, _, _, _, _, _, _, by rw [hl, pAll, if_pos hc, hp]; rfl, rfl, .inr (by simp at hls ⊢; omega)⟩
    · have hc : ¬ c = 42 := fun e => by subst e; simp at h42
      refine (refSingle s c l 0 true w hh hs (.inr h42)).mono ?_
      rintro e w' ⟨hb, hok, herr⟩
      refine ⟨hb, ?_⟩
      cases hp : pSingle c l with
      | error n =>
        have hpa : pAll s.data.toList = .error n := by rw [hl, pAll, if_neg hc, hp]
        obtain ⟨z, h1 | ⟨k, h1⟩⟩ := herr n hp
        · exact .inl ⟨n, _, _, _, _, _, _, _, _, hpa, h1, .inl rfl⟩
        · exact .inl ⟨n, _, _, _, _, _, _, _, _, hpa, h1, .inl rfl⟩
      | ok y =>
        obtain ⟨r, q⟩ := y
        obtain rfl := hok r q hp
        cases q with
        | nil =>
          have hpa : pAll s.data.toList = .ok (.one r) := by rw [hl, pAll, if_neg hc, hp]; rfl
          have hgv : GotVal w.heap.size w' r.val (.one r) := rfl
          obtain ⟨x, hx1, hx2, hx3, hx4, _⟩ := got_view hgv (pAll_fine hpa) (big hpa)
          refine .inr ⟨.one r, x, hpa, ?_, hx2, hx4, by rw [← hx1]; exact hgv⟩
          rw [← hx1]
          simp
        | cons d q =>
          have hls := pSingle_len hp
          exact .inl ⟨1, _, _, _, _, _, _, _, _, by rw [hl, pAll, if_neg hc, hp]; rfl, rfl, .inr (by simp at hls ⊢; omega)⟩

theorem one_begin {w w1 : World} {o : Obj} (hb : Below (w.alloc o).heap.size (w.alloc o) w1) :
    w1.heap[w.heap.size]? = some o ∧ Below w.heap.size w w1 ∧ w.heap.size + 1 ≤ w1.heap.size := by
  have hs : (w.alloc o).heap.size = w.heap.size + 1 := by simp
  rw [hs] at hb
  have h0 := hb.size
  rw [hs] at h0
  exact ⟨(hb.block w.heap.size (by omega)).trans (heap_alloc_new w o), ((Below.refl _ w).alloc (Nat.le_refl _) _).trans (hb.mono (by omega)), h0⟩
theorem lies_val {x : Top} : ∃ k t n a len cap, x.val = .agg #[.int .i64 k, .string t, .int .i64 n, .slice a len cap] := ⟨_, _, _, _, _, _, rfl⟩

set_option maxRecDepth 100000 in
set_option maxHeartbeats 4000000 in
theorem replyOf_any (s : ByteArray) (w : World) (hs : s.size ≤ 281474976710656) :
    Calls Tryd.prog 11 #[.string s] w (DecPost s w) := by
  have HT : Hid (∀ W, Calls Tryd.prog 29 #[.string s, .int .i64 0, .bool true] W (TopPost s W)) := fun W => refTop s W hs
  go_enter Tryd.func11, Tryd.ntmps11
  go_wp2_with fail
  refine (HT.out _).mono ?_
  rintro e w0 ⟨hb0, ⟨n, k, t, m, a, len, cap, z, ok, hp, rfl, hno⟩ | ⟨g, x, hp, rfl, hx, hck, hgv⟩⟩
  · obtain ⟨hB0, hb00, hz0⟩ := one_begin hb0
    have HP := hide hp
    clear hp HT hb0
    have hB := fun o => (((Kept.refl (fun _ => False) w0).alloc o).block w.heap.size (by omega) (fun e => e)).trans hB0
    have c0 := fun o => (four_of (hB o)).c0
    have c1 := fun o => (four_of (hB o)).c1
    have c2 := fun o => (four_of (hB o)).c2
    have c3 := fun o => (four_of (hB o)).c3
    have g0 := fun o => (four_of (hB o)).f0
    have g1 := fun o => (four_of (hB o)).f1
    have g2 := fun o => (four_of (hB o)).f2
    have g3 := fun o => (four_of (hB o)).f3
    have HBA := hide hB
    clear hB hB0
    rcases hno with rfl | hno
    · go_wp2_with fail
      clear c0 c1 c2 c3 g0 g1 g2 g3
      have HB0 := hide (HBA.out (.cells #[.int .i64 k, .string t, .int .i64 m, .slice a len cap] 24))
      have hb1 : Below w.heap.size w (w0.alloc (.cells #[.int .i64 k, .string t, .int .i64 m, .slice a len cap] 24)) := hb00.alloc (by omega) _
      generalize w0.alloc (.cells #[.int .i64 k, .string t, .int .i64 m, .slice a len cap] 24) = w1 at *
      have hh2 := put4_heap HB0.out (.int .i64 0) (.string ⟨#[]⟩) (.int .i64 0) (.slice none 0 0)
      have hk2 := put4_below hb1 (Nat.le_refl _) (.int .i64 0) (.string ⟨#[]⟩) (.int .i64 0) (.slice none 0 0)
      have hk6 := put4_kept (Kept.refl (one w.heap.size) w1) (.inr rfl) (.int .i64 0) (.string ⟨#[]⟩) (.int .i64 0) (.slice none 0 0)
      generalize (((w1.setCell ⟨w.heap.size, 0, none⟩ (.int .i64 0)).setCell ⟨w.heap.size, 1, none⟩ (.string ⟨#[]⟩)).setCell ⟨w.heap.size, 2, none⟩ (.int .i64 0)).setCell ⟨w.heap.size, 3, none⟩ (.slice none 0 0) = w2 at *
      obtain ⟨k0, k1, k2, k3, e0, e1, e2, e3⟩ := four_of hh2
      exact bodyPost_ret (v := .tuple #[.agg #[.int .i64 0, .string ⟨#[]⟩, .int .i64 0, .slice none 0 0], .int .i64 1]) (by simp [results, Tryd.results11, go_sem, k0, k1, k2, k3]) rfl (⟨hk2, fun _ _ => rfl, fun g hx => by rw [HP.out] at hx; simp at hx⟩)
    · cases ok with
      | false =>
        go_wp2_with fail
        clear c0 c1 c2 c3 g0 g1 g2 g3
        have HB0 := hide (HBA.out (.cells #[.int .i64 k, .string t, .int .i64 m, .slice a len cap] 24))
        have hb1 : Below w.heap.size w (w0.alloc (.cells #[.int .i64 k, .string t, .int .i64 m, .slice a len cap] 24)) := hb00.alloc (by omega) _
        generalize w0.alloc (.cells #[.int .i64 k, .string t, .int .i64 m, .slice a len cap] 24) = w1 at *
        have hh2 := put4_heap HB0.out (.int .i64 0) (.string ⟨#[]⟩) (.int .i64 0) (.slice none 0 0)
        have hk2 := put4_below hb1 (Nat.le_refl _) (.int .i64 0) (.string ⟨#[]⟩) (.int .i64 0) (.slice none 0 0)
        have hk6 := put4_kept (Kept.refl (one w.heap.size) w1) (.inr rfl) (.int .i64 0) (.string ⟨#[]⟩) (.int .i64 0) (.slice none 0 0)
        generalize (((w1.setCell ⟨w.heap.size, 0, none⟩ (.int .i64 0)).setCell ⟨w.heap.size, 1, none⟩ (.string ⟨#[]⟩)).setCell ⟨w.heap.size, 2, none⟩ (.int .i64 0)).setCell ⟨w.heap.size, 3, none⟩ (.slice none 0 0) = w2 at *
        obtain ⟨k0, k1, k2, k3, e0, e1, e2, e3⟩ := four_of hh2
        exact bodyPost_ret (v := .tuple #[.agg #[.int .i64 0, .string ⟨#[]⟩, .int .i64 0, .slice none 0 0], .int .i64 1]) (by simp [results, Tryd.results11, go_sem, k0, k1, k2, k3]) rfl (⟨hk2, fun _ _ => rfl, fun g hx => by rw [HP.out] at hx; simp at hx⟩)
      | true =>
        go_wp2_with fail
        clear c0 c1 c2 c3 g0 g1 g2 g3
        have HB0 := hide (HBA.out (.cells #[.int .i64 k, .string t, .int .i64 m, .slice a len cap] 24))
        have hb1 : Below w.heap.size w (w0.alloc (.cells #[.int .i64 k, .string t, .int .i64 m, .slice a len cap] 24)) := hb00.alloc (by omega) _
        generalize w0.alloc (.cells #[.int .i64 k, .string t, .int .i64 m, .slice a len cap] 24) = w1 at *
        have hh2 := put4_heap HB0.out (.int .i64 0) (.string ⟨#[]⟩) (.int .i64 0) (.slice none 0 0)
        have hk2 := put4_below hb1 (Nat.le_refl _) (.int .i64 0) (.string ⟨#[]⟩) (.int .i64 0) (.slice none 0 0)
        have hk6 := put4_kept (Kept.refl (one w.heap.size) w1) (.inr rfl) (.int .i64 0) (.string ⟨#[]⟩) (.int .i64 0) (.slice none 0 0)
        generalize (((w1.setCell ⟨w.heap.size, 0, none⟩ (.int .i64 0)).setCell ⟨w.heap.size, 1, none⟩ (.string ⟨#[]⟩)).setCell ⟨w.heap.size, 2, none⟩ (.int .i64 0)).setCell ⟨w.heap.size, 3, none⟩ (.slice none 0 0) = w2 at *
        obtain ⟨k0, k1, k2, k3, e0, e1, e2, e3⟩ := four_of hh2
        exact bodyPost_ret (v := .tuple #[.agg #[.int .i64 0, .string ⟨#[]⟩, .int .i64 0, .slice none 0 0], .int .i64 1]) (by simp [results, Tryd.results11, go_sem, k0, k1, k2, k3]) rfl (⟨hk2, fun _ _ => rfl, fun g hx => by rw [HP.out] at hx; simp at hx⟩)
  · obtain ⟨hB0, hb00, hz0⟩ := one_begin hb0
    have HP := hide hp
    have HCK : Hid (∀ o, Calls Tryd.prog 9 #[x.val] (w0.alloc o) fun e w' => e = .returned (.int .i64 (gotCheck g)) ∧ Below (w0.alloc o).heap.size (w0.alloc o) w') := fun o => by
      have := refReply_any x.k x.t x.n x.a x.cap x.rs (w0.alloc o) hx.small (hx.below ((Below.refl _ w0).alloc (Nat.le_refl _) o)).list
      rw [← hck]
      exact this
    have hgs : (w.alloc (Obj.cells #[Value.int .i64 0, .string ⟨#[]⟩, .int .i64 0, .slice none 0 0] 24)).heap.size = w.heap.size + 1 := by simp
    have HGV := hide hgv
    obtain ⟨k, t, m, a, len, cap, hxv⟩ := lies_val (x := x)
    rw [hxv] at HCK HGV ⊢
    clear hp HT hb0 hx hck hgv hxv
    go_wp2_with fail
    refine (HCK.out _).mono ?_
    rintro e w1 ⟨rfl, hbc⟩
    have hzc : w0.heap.size + 1 ≤ w1.heap.size := by have := hbc.size; simpa using this
    have h01 : Below w0.heap.size w0 w1 := ((Below.refl _ w0).alloc (Nat.le_refl _) _).trans (hbc.mono (by simp))
    have hb1 : Below w.heap.size w w1 := hb00.trans (h01.mono (by omega))
    have hB1 := (h01.block w.heap.size (by omega)).trans hB0
    have hR1 : w1.heap[w0.heap.size]? = some (.cells #[.int .i64 k, .string t, .int .i64 m, .slice a len cap] 24) := (hbc.block w0.heap.size (by simp)).trans (heap_alloc_new w0 _)
    obtain ⟨c0, c1, c2, c3, f0, f1, f2, f3⟩ := four_of hB1
    obtain ⟨d0, d1, d2, d3, y0, y1, y2, y3⟩ := four_of hR1
    have HB0 := hide hB1
    have HG1 : Hid (GotVal (w.heap.size + 1) w1 (.agg #[.int .i64 k, .string t, .int .i64 m, .slice a len cap]) g) := by
      have := HGV.out
      rw [hgs] at this
      exact this.kept (S := fun _ => False) (Kept.of_below h01 _) (fun _ e => e.elim) (Nat.le_refl _)
    clear hB0 hB1 hR1 HGV HCK hgs y0 y1 y2 y3
    by_cases hg0 : gotCheck g = 0
    · rw [hg0]
      go_wp2_with fail
      clear c0 c1 c2 c3 f0 f1 f2 f3 d0 d1 d2 d3
      have hh2 := put4_heap HB0.out (.int .i64 k) (.string t) (.int .i64 m) (.slice a len cap)
      have hk2 := put4_below hb1 (Nat.le_refl _) (.int .i64 k) (.string t) (.int .i64 m) (.slice a len cap)
      have hk6 := put4_kept (Kept.refl (one w.heap.size) w1) (.inr rfl) (.int .i64 k) (.string t) (.int .i64 m) (.slice a len cap)
      generalize (((w1.setCell ⟨w.heap.size, 0, none⟩ (.int .i64 k)).setCell ⟨w.heap.size, 1, none⟩ (.string t)).setCell ⟨w.heap.size, 2, none⟩ (.int .i64 m)).setCell ⟨w.heap.size, 3, none⟩ (.slice a len cap) = w2 at *
      obtain ⟨k0, k1, k2, k3, e0, e1, e2, e3⟩ := four_of hh2
      exact bodyPost_ret (v := .tuple #[.agg #[.int .i64 k, .string t, .int .i64 m, .slice a len cap], .int .i64 0]) (by simp [results, Tryd.results11, go_sem, k0, k1, k2, k3]) rfl (⟨hk2, fun n hx => by rw [HP.out] at hx; simp at hx, fun g' hx => by
        rw [HP.out] at hx
        simp at hx
        subst hx
        exact ⟨fun _ => ⟨_, rfl, HG1.out.kept hk6 (fun j e => by simp only [one] at e; omega) (by omega)⟩, fun hne => absurd hg0 hne⟩⟩)
    · have hgb : (gotCheck g == 0) = false := by rw [beq_eq_false_iff_ne]; exact hg0
      have HG0 := hide hg0
      generalize hE : gotCheck g = E at *
      clear hg0
      go_wp2_with fail
      clear c0 c1 c2 c3 f0 f1 f2 f3 d0 d1 d2 d3
      have hh2 := put4_heap HB0.out (.int .i64 0) (.string ⟨#[]⟩) (.int .i64 0) (.slice none 0 0)
      have hk2 := put4_below hb1 (Nat.le_refl _) (.int .i64 0) (.string ⟨#[]⟩) (.int .i64 0) (.slice none 0 0)
      have hk6 := put4_kept (Kept.refl (one w.heap.size) w1) (.inr rfl) (.int .i64 0) (.string ⟨#[]⟩) (.int .i64 0) (.slice none 0 0)
      generalize (((w1.setCell ⟨w.heap.size, 0, none⟩ (.int .i64 0)).setCell ⟨w.heap.size, 1, none⟩ (.string ⟨#[]⟩)).setCell ⟨w.heap.size, 2, none⟩ (.int .i64 0)).setCell ⟨w.heap.size, 3, none⟩ (.slice none 0 0) = w2 at *
      obtain ⟨k0, k1, k2, k3, e0, e1, e2, e3⟩ := four_of hh2
      exact bodyPost_ret (v := .tuple #[.agg #[.int .i64 0, .string ⟨#[]⟩, .int .i64 0, .slice none 0 0], .int .i64 E]) (by simp [results, Tryd.results11, go_sem, k0, k1, k2, k3]) rfl (⟨hk2, fun n hx => by rw [HP.out] at hx; simp at hx, fun g' hx => by
        rw [HP.out] at hx
        simp at hx
        subst hx
        exact ⟨fun he => absurd (hE.symm.trans he) HG0.out, fun _ => by rw [hE]; rfl⟩⟩)
end Go.Proofs.YtolpmaapdkhigaaDoor
