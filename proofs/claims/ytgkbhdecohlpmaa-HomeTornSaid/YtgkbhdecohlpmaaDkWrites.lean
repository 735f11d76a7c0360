/-
  Writes: the writes are counted in whatever order the map gives them.
-/
import Derived.Test.YtgkbhdecohlpmaaDkRead
import Derived.Laws.IdiomRangeMap
import Derived.LoopN
namespace Go.Proofs.Ytgkbhdecohlpmaa.Dk
set_option maxRecDepth 100000
open Go.RowKit Go.Maps

def sumF (f : Nat → Nat) (N : Nat) : Nat := ((List.range N).map f).sum
theorem sumF_succ (f : Nat → Nat) (N : Nat) : sumF f (N + 1) = sumF f N + f N := by
  unfold sumF
  rw [List.range_succ, List.map_append, List.sum_append]
  simp
theorem sumF_congr {f g : Nat → Nat} {N : Nat} (h : ∀ n, n < N → f n = g n) : sumF f N = sumF g N := by
  induction N with
  | zero => rfl
  | succ N ih => rw [sumF_succ, sumF_succ, ih (fun n hn => h n (by omega)), h N (by omega)]
theorem sumF_le {f g : Nat → Nat} {N : Nat} (h : ∀ n, n < N → f n ≤ g n) : sumF f N ≤ sumF g N := by
  induction N with
  | zero => exact Nat.le_refl _
  | succ N ih =>
    rw [sumF_succ, sumF_succ]
    have h1 := ih (fun n hn => h n (by omega))
    have h2 := h N (by omega)
    omega
theorem sumF_upd {f g : Nat → Nat} {k x : Nat} (h : ∀ n, n ≠ k → g n = f n) (hk : g k = f k + x) : ∀ N, k < N → sumF g N = sumF f N + x
  | 0, h0 => by omega
  | N + 1, h0 => by
    rw [sumF_succ, sumF_succ]
    by_cases e : k = N
    · subst e
      rw [sumF_congr (f := g) (g := f) (fun n hn => h n (by omega)), hk]; omega
    · rw [sumF_upd h hk N (by omega), h N (by omega)]; omega
theorem sumF_zero {f : Nat → Nat} {N : Nat} (h : ∀ n, n < N → f n = 0) : sumF f N = 0 := by
  induction N with
  | zero => rfl
  | succ N ih => rw [sumF_succ, ih (fun n hn => h n (by omega)), h N (by omega)]

/-- those of the entries that have come -/
def come {H : Type} (D : DataW H) (left : Lit → Bool) (c : Nat → Nat) (n : Nat) : Nat := if Maps.has D (key n) && !left (key n) then c n else 0
theorem key_inj {n k : Nat} (h : key n = key k) : n = k := by
  unfold key at h
  have := (Lit.int.inj h).2
  omega
theorem sameKey_key (n k : Nat) : (key n).sameKey (key k) = decide (n = k) := by
  by_cases h : n = k
  · subst h; simp [Lit.sameKey, key]
  · rw [decide_eq_false h]
    exact Maps.sameKey_ne (fun e => h (key_inj e))

theorem come_all {H : Type} {D : DataW H} {left : Lit → Bool} {C : Nat → List (List Nat)} {n : Nat} (h : Maps.has D (key n) = !(C n).isEmpty) (hl : ∀ kl, left kl = false) : come D left (fun n => (C n).length) n = (C n).length := by
  simp only [come]
  rw [hl (key n), h]
  cases e : C n <;> simp
theorem come_other {H : Type} {D : DataW H} {left : Lit → Bool} {c : Nat → Nat} {n i : Nat} (h : i ≠ n) : come D (fun z => left z && !z.sameKey (key n)) c i = come D left c i := by
  simp [come, sameKey_key, h]
theorem come_same {H : Type} {D : DataW H} {left : Lit → Bool} {c : Nat → Nat} {n : Nat} (h : Maps.has D (key n) = true) (hl : left (key n) = true) : come D (fun z => left z && !z.sameKey (key n)) c n = come D left c n + c n := by
  simp [come, sameKey_key, h, hl]
theorem below_grown {w w' : World} (h : Below w.heap.size w w') : w.grownBy w' none := ⟨h.os, h.tape, h.output, h.size, fun k hk _ => h.block k hk⟩
theorem Slots.val {w : World} {S : Nat → Prop} {c : Nat → List (List Nat)} {V : Nat → Value} (h : Slots w S c V) {n : Nat} (hn : n < 34) : ∃ A cap, V n = .slice A (c n).length cap := by
  rcases (h.own n hn).2 with ⟨e, h0⟩ | ⟨g, cap, _, e, _⟩
  · exact ⟨none, 0, by rw [e, h0]⟩
  · exact ⟨_, _, e⟩
theorem writes_eq (d : Dk) : d.writes = sumF (fun n => (d.cache n).length) 34 := rfl

/-- what an entry of the cache is, as the map gives it -/
theorem Mapped.entry {D : DataW Value} {c : Nat → List (List Nat)} {V : Nat → Value} (h1 : ∀ kl, Maps.has D kl = true → ∃ n, n < 34 ∧ kl = key n)
    (h2 : ∀ n, n < 34 → Maps.has D (key n) = !(c n).isEmpty ∧ D.atKey (key n) (.held nilS) = .held (V n))
    {x : Int} {v : Value} {kl : Lit} {y : DataW Value × List MemPlace} (hk : keyOf Try.prog 3 (.int .i64 x) = some kl) (hl : Maps.has D kl = true) (hy : held v = some y) (hat : ∀ zd, D.atKey kl zd = y.1) :
    ∃ n : Nat, n < 34 ∧ x = (n : Int) ∧ kl = key n ∧ v = V n ∧ c n ≠ [] := by
  obtain ⟨n, hn, rfl⟩ := h1 kl hl
  obtain ⟨x', ex, ekl, _⟩ := Maps.keyOf_int_inv Try.underlying3 hk
  cases ex
  have hx : x = (n : Int) := by
    unfold key at ekl
    exact (Lit.int.inj ekl).2.symm
  have h3 := h2 n hn
  have h4 := hat (.held nilS)
  rw [h3.2] at h4
  unfold held at hy
  cases hy
  refine ⟨n, hn, hx, rfl, (DataW.held.inj h4).symm, fun e => ?_⟩
  rw [h3.1, e] at hl
  cases hl

end Go.Proofs.Ytgkbhdecohlpmaa.Dk
