/- WALK of a bracket. -/
import Derived.Test.YtolpmaapdkhigabGSpan
import Derived.Deep.AppendLies
import Derived.Handy
namespace Go.Proofs.Ytolpmaapdkhigab
open Go.RowKit

theorem infoSpan : (Try.prog.info? 134).map (fun i => (i.zero, i.size, i.bytes)) = some (some (.agg #[.int .u8 0, .int .u8 0]), 2, 2) := by kernel_rfl

/-- does a text begin with the sign of what is not? -/
theorem prefix1_lite (l : List UInt8) (w : World) :
    Calls Try.prog 97 #[.string ⟨l.toArray⟩, .string ⟨#[94]⟩] w fun e w' => e = .returned (.bool (l.head? == some 94)) ∧ w' = w := by
  cases l with
  | nil =>
    go_enter Try.func97, Try.ntmps97
    go_wp2_with fail
    go_ret
    exact ⟨rfl, rfl⟩
  | cons x r =>
    have hv : ((x :: r).head? == some 94) = (x == 94) := by simp
    rw [hv]
    obtain ⟨L, hL⟩ : ∃ L : ByteArray, L = ⟨(x :: r).toArray⟩ := ⟨_, rfl⟩
    rw [← hL]
    have hsz : 1 ≤ L.size := by rw [hL, size_mk]; simp
    have hsl : ∀ W : World, (Instr.slice 9 (.string L) none (some (.int .i64 1)) none).run Try.prog W = .ok (.string ⟨#[x]⟩) W := fun W => by
      rw [run_slice_string_to_if (P := Try.prog) W 9 L .i64 _ Try.underlying9, if_pos (by omega)]
      congr 2
      rw [extract_list, hL, toList_mk]
      rfl
    have hge : decide ((1 : Int) ≤ ((L.size : Nat) : Int)) = true := decide_eq_true (by omega)
    have hq : ((⟨#[x]⟩ : ByteArray).toList == [94]) = (x == 94) := by
      rw [ByteArray.toList_eq]
      simp
    clear hL hv
    generalize (⟨#[x]⟩ : ByteArray) = X at *
    go_enter Try.func97, Try.ntmps97
    go_wp2_with fail
    go_ret
    exact ⟨rfl, rfl⟩
theorem prefix1_any (l : List UInt8) (w : World) :
    Calls Try.prog 88 #[.string ⟨l.toArray⟩, .string ⟨#[94]⟩] w fun e w' => e = .returned (.bool (l.head? == some 94)) ∧ w' = w := by
  have HC := hide (prefix1_lite l w)
  generalize (⟨l.toArray⟩ : ByteArray) = L at *
  generalize (l.head? == some 94) = R at *
  go_enter Try.func88, Try.ntmps88
  go_wp2_with fail
  refine HC.out.mono ?_
  rintro e w' ⟨rfl, rfl⟩
  go_wp2_with fail
  go_ret
  exact ⟨rfl, rfl⟩

/-- a function value that lies in memory, and tells whether a byte may be -/
def FnAt (base : Nat) (w : World) (v : Value) : Part → Prop
  | .star => v = .func (.func 76) #[] #[]
  | .any => v = .func (.func 76) #[] #[]
  | .lit c => ∃ b, base ≤ b ∧ v = .func (.func 78) #[] #[.pointer (some ⟨b, 0, none⟩)] ∧ w.heap[b]? = some (.cells #[.int .u8 c.toNat] 5)
  | .cls neg sp => ∃ b1 b2 a cap, base ≤ b1 ∧ base ≤ b2 ∧ v = .func (.func 90) #[] #[.pointer (some ⟨b1, 0, none⟩), .pointer (some ⟨b2, 0, none⟩)] ∧ w.heap[b1]? = some (.cells #[.bool neg] 4) ∧ w.heap[b2]? = some (.cells #[.slice a sp.length cap] 132) ∧
      w.ownsRow base 134 2 (.slice a sp.length cap) sp.length (spanRow sp) ∧ sp.length ≤ 1000
theorem FnAt.kept {base base2 : Nat} {w w' : World} {v : Value} {p : Part} (h : FnAt base w v p) {S : Nat → Prop} (hk : Kept S w w') (hb : base2 ≤ base)
    (hS : ∀ k cs T, base ≤ k → w.heap[k]? = some (.cells cs T (0, 0)) → T ≠ 85 → ¬ S k) : FnAt base2 w' v p := by
  have hlt : ∀ {k : Nat} {o : Obj}, w.heap[k]? = some o → k < w.heap.size := fun {k o} hx => by
    rcases Nat.lt_or_ge k w.heap.size with h | h
    · exact h
    · rw [Array.getElem?_eq_none (by simpa using h)] at hx; simp at hx
  have keep : ∀ {k : Nat} {cs : Array Value} {T : Nat}, base ≤ k → w.heap[k]? = some (.cells cs T (0, 0)) → T ≠ 85 → w'.heap[k]? = some (.cells cs T (0, 0)) := fun {k cs T} h1 h2 h3 => (hk.block k (hlt h2) (hS k cs T h1 h2 h3)).trans h2
  cases p with
  | star => exact h
  | any => exact h
  | lit c =>
    obtain ⟨b, h1, h2, h3⟩ := h
    exact ⟨b, by omega, h2, keep h1 h3 (by decide)⟩
  | cls neg sp =>
    obtain ⟨b1, b2, a, cap, h1, h2, h3, h4, h5, h6, h7⟩ := h
    refine ⟨b1, b2, a, cap, by omega, by omega, h3, keep h1 h4 (by decide), keep h2 h5 (by decide), ⟨h6.1, ?_⟩, h7⟩
    rcases h6.2 with hn | ⟨g, cp, cur, e1, e2, e3, rest⟩
    · exact .inl hn
    · exact .inr ⟨g, cp, cur, e1, by omega, keep e2 e3 (by decide), rest⟩

def BrPost (b : Nat) (s : ByteArray) (l : List UInt8) (w : World) (e : Ending) (w' : World) : Prop :=
  Kept (one b) w w' ∧ (∀ p q, pBracket l = .ok (p, q) → ∃ v, e = .returned v ∧ FnAt w.heap.size w' v p ∧ AtL b s q w') ∧ (∀ n, pBracket l = .error n → e = .panicked [{ v := .iface 92 (.agg #[.int .i64 (n)]), recovered := false }])
theorem BrPost.err {b : Nat} {s : ByteArray} {l : List UInt8} {w w' : World} {x : Nat} (hp : pBracket l = .error x) (hk : Kept (one b) w w') : BrPost b s l w (.panicked [{ v := .iface 92 (.agg #[.int .i64 (x)]), recovered := false }]) w' :=
  ⟨hk, fun v q hx => by rw [hp] at hx; simp at hx, fun n hx => by rw [hp] at hx; simp at hx; subst hx; rfl⟩
def inside (l : List UInt8) : List UInt8 := if l.head? = some 94 then l.tail else l
def brOf (neg : Bool) : Except Nat (List (UInt8 × UInt8) × List UInt8) → Except Nat (Part × List UInt8)
  | .error e => .error e
  | .ok ([], _) => .error 1
  | .ok (x :: xs, q) => .ok (.cls neg (x :: xs), q)
theorem pBracket_of (l : List UInt8) : pBracket l = brOf (l.head? == some 94) (pCls (inside l)) := by
  unfold pBracket inside brOf
  rfl
theorem begin1n (w : World) (o : Obj) (n : Nat) (W : World) (hW : W = (w.drewN n).alloc o) :
    W.heap[w.heap.size]? = some o ∧ W.heap.size = w.heap.size + 1 ∧ ∀ S, Kept S w W := by
  subst hW
  exact ⟨heap_alloc_new (w.drewN n) o, show ((w.drewN n).alloc o).heap.size = w.heap.size + 1 by simp, fun S => ((Kept.refl S w).drewN n).alloc o⟩
end Go.Proofs.Ytolpmaapdkhigab
