/-
  Writes: the writes are counted in whatever order the map gives them.
-/
import Derived.Test.YtfeaaclbjnaamaaRead
import Derived.Laws.IdiomRangeMap
import Derived.LoopN
namespace Go.Proofs.Ytfeaaclbjnaamaa
open Go.RowKit Go.Maps

def sumF (f : Nat → Nat) (N : Nat) : Nat := ((List.range N).map f).sum
theorem sumF_succ (f : Nat → Nat) (N : Nat) : sumF f (N + 1) = sumF f N + f N := by
  unfold sumF
  rw [List.range_succ, List.map_append, List.sum_append]
  simp
theorem sumF_congr {f g : Nat → Nat} {N : Nat} (h : ∀ n, n < N → f n = g n) : sumF f N = sumF g N := by
  induction N with
  | zero => rfl
  | succ N ih => rw [sumF_succ, sumF_succ, ih (fun n hn => h n (by omega)), h N (by omega)]
theorem sumF_le {f g : Nat → Nat} {N : Nat} (h : ∀ n, n < N → f n ≤ g n) : sumF f N ≤ sumF g N := by
  induction N with
  | zero => exact Nat.le_refl _
  | succ N ih =>
    rw [sumF_succ, sumF_succ]
    have h1 := ih (fun n hn => h n (by omega))
    have h2 := h N (by omega)
    omega
theorem sumF_upd {f g : Nat → Nat} {k x : Nat} (h : ∀ n, n ≠ k → g n = f n) (hk : g k = f k + x) : ∀ N, k < N → sumF g N = sumF f N + x
  | 0, h0 => by omega
  | N + 1, h0 => by
    rw [sumF_succ, sumF_succ]
    by_cases e : k = N
    · subst e
      rw [sumF_congr (f := g) (g := f) (fun n hn => h n (by omega)), hk]; omega
    · rw [sumF_upd h hk N (by omega), h N (by omega)]; omega
theorem sumF_zero {f : Nat → Nat} {N : Nat} (h : ∀ n, n < N → f n = 0) : sumF f N = 0 := by
  induction N with
  | zero => rfl
  | succ N ih => rw [sumF_succ, ih (fun n hn => h n (by omega)), h N (by omega)]

/-- those of the entries that have come -/
def come {H : Type} (D : DataW H) (left : Lit → Bool) (c : Nat → Nat) (n : Nat) : Nat := if Maps.has D (key n) && !left (key n) then c n else 0
theorem key_inj {n k : Nat} (h : key n = key k) : n = k := by
  unfold key at h
  have := (Lit.int.inj h).2
  omega
theorem sameKey_key (n k : Nat) : (key n).sameKey (key k) = decide (n = k) := by
  by_cases h : n = k
  · subst h; simp [Lit.sameKey, key]
  · rw [decide_eq_false h]
    exact Maps.sameKey_ne (fun e => h (key_inj e))

theorem come_all {H : Type} {D : DataW H} {left : Lit → Bool} {C : Nat → List (List Nat)} {n : Nat} (h : Maps.has D (key n) = !(C n).isEmpty) (hl : ∀ kl, left kl = false) : come D left (fun n => (C n).length) n = (C n).length := by
  simp only [come]
  rw [hl (key n), h]
  cases e : C n <;> simp
theorem come_other {H : Type} {D : DataW H} {left : Lit → Bool} {c : Nat → Nat} {n i : Nat} (h : i ≠ n) : come D (fun z => left z && !z.sameKey (key n)) c i = come D left c i := by
  simp [come, sameKey_key, h]
theorem come_same {H : Type} {D : DataW H} {left : Lit → Bool} {c : Nat → Nat} {n : Nat} (h : Maps.has D (key n) = true) (hl : left (key n) = true) : come D (fun z => left z && !z.sameKey (key n)) c n = come D left c n + c n := by
  simp [come, sameKey_key, h, hl]
theorem below_grown {w w' : World} (h : Below w.heap.size w w') : w.grownBy w' none := ⟨h.os, h.tape, h.output, h.size, fun k hk _ => h.block k hk⟩
theorem Slots.val {w : World} {S : Nat → Prop} {c : Nat → List (List Nat)} {V : Nat → Value} (h : Slots w S c V) {n : Nat} (hn : n < 34) : ∃ A cap, V n = .slice A (c n).length cap := by
  rcases (h.own n hn).2 with ⟨e, h0⟩ | ⟨g, cap, _, e, _⟩
  · exact ⟨none, 0, by rw [e, h0]⟩
  · exact ⟨_, _, e⟩
theorem writes_eq (d : Dk) : d.writes = sumF (fun n => (d.cache n).length) 34 := rfl

/-- what an entry of the cache is, as the map gives it -/
theorem Mapped.entry {D : DataW Value} {c : Nat → List (List Nat)} {V : Nat → Value} (h1 : ∀ kl, Maps.has D kl = true → ∃ n, n < 34 ∧ kl = key n)
    (h2 : ∀ n, n < 34 → Maps.has D (key n) = !(c n).isEmpty ∧ D.atKey (key n) (.held nilS) = .held (V n))
    {x : Int} {v : Value} {kl : Lit} {y : DataW Value × List MemPlace} (hk : keyOf Try.prog 3 (.int .i64 x) = some kl) (hl : Maps.has D kl = true) (hy : held v = some y) (hat : ∀ zd, D.atKey kl zd = y.1) :
    ∃ n : Nat, n < 34 ∧ x = (n : Int) ∧ kl = key n ∧ v = V n ∧ c n ≠ [] := by
  obtain ⟨n, hn, rfl⟩ := h1 kl hl
  obtain ⟨x', ex, ekl, _⟩ := Maps.keyOf_int_inv Try.underlying3 hk
  cases ex
  have hx : x = (n : Int) := by
    unfold key at ekl
    exact (Lit.int.inj ekl).2.symm
  have h3 := h2 n hn
  have h4 := hat (.held nilS)
  rw [h3.2] at h4
  unfold held at hy
  cases hy
  refine ⟨n, hn, hx, rfl, (DataW.held.inj h4).symm, fun e => ?_⟩
  rw [h3.1, e] at hl
  cases hl

theorem writes_nil (w : World) : Calls Try.prog 12 #[.pointer none] w fun e w' => e = .returned (.int .i64 0) ∧ w' = w := by
  go_enter Try.func12, Try.ntmps12
  go_wp2
  go_ret
  exact ⟨rfl, rfl⟩

set_option maxHeartbeats 400000 in
theorem writes_any {w : World} {S : Nat → Prop} {a : Nat} {d : Dk} (h : Disk w S a d) (hw : d.writes < 4000000000000000000) : Calls Try.prog 12 #[.pointer (some ⟨a, 0, none⟩)] w fun e w' =>
    e = .returned (.int .i64 d.writes) ∧ Below w.heap.size w w' := by
  obtain ⟨m, hb, hc, _, _, hm⟩ := h.cells
  rw [writes_eq] at hw ⊢
  generalize d.cache = C at *
  clear h hb
  rcases hm with ⟨rfl, h0⟩ | ⟨b, V, rfl, hS, hM, hV⟩
  · rw [sumF_zero (fun n hn => by rw [h0 n hn]; rfl)]
    have hrn := fun w => run_range_nilMap (P := Try.prog) w 46 _ _ Try.underlying46
    have hnn := fun (w : World) ty a b s => run_next_nilMap (P := Try.prog) w ty a b s
    have HB := Lib.hid ((Below.refl w.heap.size w).alloc (Nat.le_refl _) (.mapIter none 0 #[] 0))
    clear hw h0
    go_enter Try.func12, Try.ntmps12
    go_wp2
    refine wp_loop_rounds 1 ?_
    rw [rounds_succ]
    go_wp2
    go_ret
    exact ⟨rfl, HB.out⟩
  · obtain ⟨D, hown, h1, h2⟩ := hM
    have hval := fun n (hn : n < 34) => hV.val hn
    have HR := Lib.hid (And.intro h1 h2)
    have HV := Lib.hid hval
    have HW := Lib.hid hw
    clear h1 h2 hV hS hval hw
    go_enter Try.func12, Try.ntmps12
    go_wp2_with (at_range; refine wpList_range_own _ rfl _ 46 rfl 3 50 (Maps.int_keyed Try.underlying3) Try.underlying46 held b 34 D rfl hown ?_; intro w0 hrg0 hg0 hs0)
    go_frame
    go_loopw [3] (fun v wr => ∃ left cnt, wr.ranges Try.prog 3 held b w.heap.size 34 D left cnt ∧ (∀ kl, left kl = true → Maps.has D kl = true) ∧ v = .int .i64 (sumF (come D left fun n => (C n).length) 34 : Nat) ∧ Below w.heap.size w wr) (fun _ wr => wr.rangeLeft b w.heap.size)
    case atStart =>
      refine ⟨_, _, hrg0, fun _ h => h, ?_, (Below.refl _ w).grown hg0 (Nat.le_refl _) (fun _ e => by cases e)⟩
      rw [sumF_zero (fun n hn => by unfold come; cases Maps.has D (key n) <;> rfl)]; rfl
    case round =>
      obtain ⟨left, cnt, hrg, hsub, rfl, hb⟩ := hrel
      have HT := Lib.hid hrg
      have HS := Lib.hid hsub
      have HB := Lib.hid hb
      clear hsub hb
      go_wp2_with (at_next; refine wpList_next_ranges _ rfl _ rfl 3 (Maps.int_keyed Try.underlying3) held (Value.int .i64) (fun v => v) (fun k kl hk => by obtain ⟨x, rfl, _⟩ := Maps.keyOf_int_inv Try.underlying3 hk; exact ⟨x, rfl⟩) (fun v y _ => ⟨v, rfl⟩) b w.heap.size 34 _ _ _ rfl hrg ?_ ?_)
      · intro _ hl0
        have e : sumF (come D left fun n => (C n).length) 34 = sumF (fun n => (C n).length) 34 := sumF_congr fun n hn => come_all (HR.out.2 n hn).1 hl0
        rw [e]
        go_wp2
        go_ret
        exact ⟨rfl, HB.out⟩
      · intro x v kl yd yp w1 cnt1 hkey hlk hv hat hrg1 hlt hg1 hs1 hen
        obtain ⟨n, hn, rfl, rfl, rfl, hne⟩ := Mapped.entry HR.out.1 HR.out.2 hkey (HS.out kl hlk) hv hat
        obtain ⟨A, cap, hVn⟩ := HV.out n hn
        have hstep : sumF (come D (fun z => left z && !z.sameKey (key n)) fun n => (C n).length) 34 = sumF (come D left fun n => (C n).length) 34 + (C n).length := by
          exact sumF_upd (k := n) (fun i hi => come_other hi) (come_same (HS.out _ hlk) hlk) 34 hn
        have hbound : sumF (come D (fun z => left z && !z.sameKey (key n)) fun n => (C n).length) 34 ≤ sumF (fun n => (C n).length) 34 := sumF_le fun i _ => by
          unfold come
          split
          · exact Nat.le_refl _
          · exact Nat.zero_le _
        have hbd := Nat.lt_of_le_of_lt hbound HW.out
        rw [hstep] at hbd
        have HREL := Lib.hid (And.intro hrg1 (And.intro hstep hg1))
        have hm1 : w1.rangeLeft b w.heap.size < wr.rangeLeft b w.heap.size := by rw [hrg1.left_eq, HT.out.left_eq]; exact hlt
        have HM := Lib.hid hm1
        rw [hVn] at hen
        rw [hVn]
        generalize sumF (come D left fun n => (C n).length) 34 = s at HREL hbd ⊢
        generalize (C n).length = l at HREL hbd hen ⊢
        clear hrg1 hstep hbound hlt hg1 hs1 hat hv hlk hkey hVn hne hrg hm1
        go_wp2
        go_roundw
        case rel => exact ⟨_, _, HREL.out.1, fun kl hk => HS.out kl (by simp at hk; exact hk.1), by rw [HREL.out.2.1]; simp [IntKind.wrap_i64], HB.out.grown HREL.out.2.2 HB.out.size (fun _ e => by cases e; exact Nat.le_refl _)⟩
        case measure => exact HM.out
end Go.Proofs.Ytfeaaclbjnaamaa
