/- WALK of whether a member is there twice. -/
import Derived.Test.YtolpmaapdkhigacIChk1
import Derived.Maps.OwnSet
import Derived.Handy
namespace Go.Proofs.Ytolpmaapdkhigac
open Go.RowKit Go.Maps Go.WideMaps

def mkeys (ts : List (Int × ByteArray)) (k : Nat) : List Lit := (ts.take k).map fun x => .string x.2.data.toList
def mset (ts : List (Int × ByteArray)) (k : Nat) : DataW Unit := setOf (.agg []) (mkeys ts k)
theorem mset_zero (ts : List (Int × ByteArray)) : mset ts 0 = .map [] := by simp [mset, mkeys, setOf]
theorem mset_succ (ts : List (Int × ByteArray)) (k : Nat) (hk : k < ts.length) : mset ts (k + 1) = (mset ts k).put (.string ts[k].2.data.toList) (.agg []) := by
  have e : mkeys ts (k + 1) = mkeys ts k ++ [.string ts[k].2.data.toList] := by
    unfold mkeys
    rw [List.take_succ_eq_append_getElem hk, List.map_append]
    rfl
  rw [mset, e, setOf_snoc]
  rfl
theorem addKey_le (x : Lit) (L : List Lit) : (addKey L x).length ≤ L.length + 1 := by
  unfold addKey
  split <;> simp
theorem addKeys_le : ∀ (xs L : List Lit), (xs.foldl addKey L).length ≤ L.length + xs.length
  | [], L => by simp
  | x :: r, L => by
    rw [List.foldl_cons]
    have h1 := addKeys_le r (addKey L x)
    have h2 := addKey_le x L
    simp only [List.length_cons]
    omega
/-- all different: as many as there are -/
theorem addKeys_eq : ∀ (xs L : List Lit), (∀ x ∈ xs, WideAt.IsKeyLit x) → ((xs.foldl addKey L).length = L.length + xs.length ↔ xs.Nodup ∧ ∀ x ∈ xs, x ∉ L)
  | [], L, _ => by simp
  | x :: r, L, hk => by
    rw [List.foldl_cons]
    have hx := hk x (by simp)
    have hr : ∀ y ∈ r, WideAt.IsKeyLit y := fun y hy => hk y (by simp [hy])
    by_cases hin : x ∈ L
    · have e : addKey L x = L := by
        unfold addKey
        rw [if_pos (show (L.any fun y => y.sameKey x) = true from List.any_eq_true.2 ⟨x, hin, WideAt.sameKey_self hx⟩)]
      rw [e]
      have h1 := addKeys_le r L
      refine ⟨fun h => ?_, fun h => absurd hin (h.2 x (by simp))⟩
      simp only [List.length_cons] at h
      omega
    · have e : addKey L x = L ++ [x] := by
        unfold addKey
        rw [if_neg]
        intro h
        obtain ⟨y, hy, hs⟩ := List.any_eq_true.1 h
        exact hin (WideAt.sameKey_eq hs ▸ hy)
      rw [e]
      have ih := addKeys_eq r (L ++ [x]) hr
      rw [List.length_append, List.length_singleton] at ih
      rw [List.length_cons, show L.length + (r.length + 1) = L.length + 1 + r.length by omega, ih]
      constructor
      · rintro ⟨h1, h2⟩
        refine ⟨List.nodup_cons.2 ⟨fun hm => h2 x hm (by simp), h1⟩, fun y hy => ?_⟩
        rcases List.mem_cons.1 hy with rfl | hy
        · exact hin
        · exact fun hm => h2 y hy (by simp [hm])
      · rintro ⟨h1, h2⟩
        obtain ⟨h3, h4⟩ := List.nodup_cons.1 h1
        refine ⟨h4, fun y hy hm => ?_⟩
        rcases List.mem_append.1 hm with hm | hm
        · exact h2 y (by simp [hy]) hm
        · simp at hm; subst hm; exact h3 hy
theorem mkeys_key (ts : List (Int × ByteArray)) (k : Nat) : ∀ x ∈ mkeys ts k, WideAt.IsKeyLit x := by
  intro x hx
  unfold mkeys at hx
  obtain ⟨y, _, rfl⟩ := List.mem_map.1 hx
  trivial
theorem list_inj {a b : ByteArray} (h : a.data.toList = b.data.toList) : a = b := by
  cases a; cases b
  congr 1
  exact Array.toList_inj.1 h
theorem twice_size (ts : List (Int × ByteArray)) : decide (Maps.size (mset ts ts.length) < ts.length) = twiceS ts := by
  rw [mset, size_setOf _ _ (mkeys_key ts _)]
  have h1 := addKeys_le (mkeys ts ts.length) []
  have h2 := addKeys_eq (mkeys ts ts.length) [] (mkeys_key ts _)
  have e : (mkeys ts ts.length).length = ts.length := by simp [mkeys]
  have hn : (mkeys ts ts.length).Nodup ↔ (ts.map Prod.snd).Nodup := by
    have e2 : mkeys ts ts.length = (ts.map Prod.snd).map (fun x => Lit.string x.data.toList) := by
      rw [mkeys, List.take_length, List.map_map]
      rfl
    rw [e2]
    constructor
    · intro h
      exact List.Pairwise.of_map _ (fun a b hab he => hab (by rw [he])) h
    · intro h
      refine List.Pairwise.map _ (fun a b hab he => hab ?_) h
      injection he with he
      exact list_inj he
  rw [e] at h1 h2
  simp only [List.length_nil, Nat.zero_add] at h1 h2
  unfold twiceS
  by_cases hd : (ts.map Prod.snd).Nodup
  · have := h2.2 ⟨hn.2 hd, by simp⟩
    rw [decide_eq_true hd, this]
    simp
  · have hne : (List.foldl addKey [] (mkeys ts ts.length)).length ≠ ts.length := fun h => hd (hn.1 (h2.1 h).1)
    rw [decide_eq_false hd]
    simp only [Bool.not_false, decide_eq_true_eq]
    omega

theorem keyLaw : Keyed Try.prog 9 := string_keyed Try.underlying9
set_option maxRecDepth 100000 in
set_option maxHeartbeats 1000000 in
theorem hasTwice_any (a : Option Addr) (cap : Nat) (ts : List (Int × ByteArray)) (w : World) (hs : ScoresAt w a ts) (hn : ts.length ≤ 1000000) (hsz : ∀ x ∈ ts, x.2.size ≤ maxLen) :
    Calls Try.prog 66 #[.slice a ts.length cap] w fun e w' => e = .returned (.bool (twiceS ts)) ∧ Below w.heap.size w w' := by
  have hmm := @run_makeMap Try.prog
  have HS := hide hs
  have HZ := hide hsz
  clear hs hsz
  go_enter Try.func66, Try.ntmps66
  go_wp2_with fail
  go_loopw [9] (fun i wr => ∃ k : Nat, k ≤ ts.length ∧ i = .int .i64 k ∧ wr.ownsMap Try.prog 9 (unitElem (H := Unit)) w.heap.size k (mset ts k) ∧ Below w.heap.size w wr ∧ w.heap.size < wr.heap.size) (fun i _ => ts.length - (intOf i).toNat)
  case atStart => exact ⟨0, Nat.zero_le _, rfl, by rw [mset_zero]; exact World.ownsMap_made _ _ _ _, (Below.refl _ _).alloc (Nat.le_refl _) _, by simp⟩
  case round =>
    obtain ⟨k, hk, rfl, hown, hb, hlw⟩ := hrel
    by_cases hlt : k < ts.length
    · obtain ⟨g, o, rfl, hcs⟩ : ∃ g o, a = some ⟨g, o, none⟩ ∧ ∀ i (h : i < ts.length), w.cell? ⟨g, o + i * 2, none⟩ = some (.int .i64 ts[i].1) ∧ w.cell? ⟨g, o + i * 2 + 1, none⟩ = some (.string ts[i].2) := by
        rcases HS.out with h | h
        · subst h; simp at hlt
        · exact h
      have HB : Hid (∀ g o v, w.cell? ⟨g, o, none⟩ = some v → wr.cell? ⟨g, o, none⟩ = some v) := fun g o _ hv => (hb.cell (p := ⟨g, o, none⟩) (World.block_lt_of_cell? _ _ hv)).trans hv
      have d0 : wr.cell? ⟨g, o + k * 2, none⟩ = some (.int .i64 ts[k].1) := HB.out _ _ _ (hcs k hlt).1
      have d1 : wr.cell? ⟨g, o + k * 2 + 1, none⟩ = some (.string ts[k].2) := HB.out _ _ _ (hcs k hlt).2
      have HM := hide (mset_succ ts k hlt)
      have hkey : keyOf Try.prog 9 (.string ts[k].2) = some (.string ts[k].2.data.toList) := keyOf_string_mk Try.underlying9 (HZ.out _ (List.getElem_mem hlt))
      have HK := hide hkey
      clear hcs HB HS HZ hkey
      generalize ts[k].1 = X1 at *
      generalize ts[k].2 = X2 at *
      go_wp2_with (first
        | (at_mapUpdate; refine wpList_mapUpdate_own _ rfl _ _ _ 93 rfl 9 94 keyLaw Try.underlying93 (unitElem (H := Unit)) w.heap.size k _ rfl (hown.alloc _) (by unfold maxLen; omega) _ _ _ rfl rfl HK.out _ [] unitElem_mk ?_; intro w1 hown1 hgrow1)
        | fail)
      go_roundw
      case rel => exact ⟨k + 1, by omega, by go_num, HM.out.symm ▸ hown1, (hb.alloc hb.size _).grown hgrow1 (by simp; omega) (fun j hj => by cases hj; exact Nat.le_refl _), by have := hgrow1.size; simp at this; omega⟩
      case measure => simp [intOf]; omega
    · have hkk : k = ts.length := by omega
      subst hkk
      have HW := hide (twice_size ts)
      have hge : ¬ ((ts.length : Nat) : Int) < ((ts.length : Nat) : Int) := by omega
      go_wp2_with (first
        | (at_len; refine wpList_len_own _ rfl _ 93 rfl 9 94 Try.underlying93 _ w.heap.size _ _ rfl hown ?_)
        | fail)
      go_ret
      refine ⟨?_, hb⟩
      rw [← HW.out]
      simp
end Go.Proofs.Ytolpmaapdkhigac
