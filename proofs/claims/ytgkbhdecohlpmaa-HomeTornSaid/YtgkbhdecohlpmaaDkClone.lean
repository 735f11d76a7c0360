/-
  Copy: another disk, alike in all.
-/
import Derived.Test.YtgkbhdecohlpmaaDkWrite
import Derived.Lib.BufferMore
namespace Go.Proofs.Ytgkbhdecohlpmaa.Dk
set_option maxRecDepth 100000
open Go.RowKit Go.Maps Go.MapKept Go.ChangeMaps

theorem heap_alloc_new' (w : World) (o : Obj) : (w.alloc o).heap[w.heap.size]? = some o := by
  show (w.heap.push o)[w.heap.size]? = some o
  simp
/-- what has been copied of the cache -/
def copied {H : Type} (D : DataW H) (left : Lit → Bool) (c : Nat → List (List Nat)) (n : Nat) : List (List Nat) := if Maps.has D (key n) && !left (key n) then c n else []
/-- Blocks of cells stay. -/
def CellsStay (w w' : World) : Prop := ∀ (k : Nat) (cs : Array Value) (t : TypeId) (fr : Nat × Nat), w.heap[k]? = some (Obj.cells cs t fr) → w'.heap[k]? = some (Obj.cells cs t fr)
theorem CellsStay.trans {a b c : World} (h : CellsStay a b) (k : CellsStay b c) : CellsStay a c := fun i cs t fr e => k i cs t fr (h i cs t fr e)
theorem CellsStay.of_below {w w' : World} (h : Below w.heap.size w w') : CellsStay w w' := fun k _ _ _ e => (h.block k (lt_of_heap e)).trans e
theorem CellsStay.of_grown {w w' : World} {b : Nat} {o : Obj} (h : w.grownBy w' (some b)) (hb : w.heap[b]? = some o) (ho : ∀ cs t fr, o ≠ .cells cs t fr) : CellsStay w w' := fun k cs t fr e =>
  (h.block k (lt_of_heap e) (fun e2 => by
    cases e2
    rw [hb] at e
    exact ho _ _ _ (Option.some.inj e))).trans e
theorem owns_stay {w w' : World} {base e size n : Nat} {v : Value} {xs : List Value} (h : w.ownsRow base e size v n xs) (hk : CellsStay w w') : w'.ownsRow base e size v n xs := by
  obtain ⟨h1, h2⟩ := h
  refine ⟨h1, ?_⟩
  rcases h2 with h2 | ⟨g, cap, cur, rfl, hg, hh, r⟩
  · exact Or.inl h2
  · exact Or.inr ⟨g, cap, cur, rfl, hg, hk _ _ _ _ hh, r⟩

/-- A disk that is being copied: the copy is at block a', its map b' has rows of its own where they have been copied. -/
structure Copying (wr : World) (a' b' : Nat) (d : Dk) (D : DataW Value) (left : Lit → Bool) (D' : DataW Value) (V' : Nat → Value) : Prop where
  own : wr.ownsMap Try.prog 3 held b' 34 D'
  has : ∀ kl, Maps.has D' kl = Maps.has D kl
  row : wr.heap[a']? = some (.cells (rowD d.dur (some b') d.down).toArray 59 (0, 0))
  new : ∀ n, n < 34 → (copied D left d.cache n ≠ [] → D'.atKey (key n) (.held nilS) = .held (V' n)) ∧ (copied D left d.cache n = [] → V' n = nilS)
  slots : Slots wr (fun k => a' ≤ k ∧ k < wr.heap.size) (copied D left d.cache) V'
theorem Copying.keep {wr w' : World} {a' b' : Nat} {d : Dk} {D : DataW Value} {left : Lit → Bool} {D' : DataW Value} {V' : Nat → Value} (h : Copying wr a' b' d D left D' V') (hs : CellsStay wr w') (hm : w'.heap[b']? = wr.heap[b']?) (hz : wr.heap.size ≤ w'.heap.size) : Copying w' a' b' d D left D' V' := by
  refine ⟨?_, h.has, hs _ _ _ _ h.row, h.new, ⟨fun n hn => owns_stay (h.slots.own n hn) hs, fun n g hn e => ?_, h.slots.apart⟩⟩
  · obtain ⟨es, clock, hb, r⟩ := h.own
    exact ⟨es, clock, hm.trans hb, r⟩
  · have := h.slots.mine n g hn e
    omega
theorem copied_other {H : Type} {D : DataW H} {left : Lit → Bool} {c : Nat → List (List Nat)} {n i : Nat} (h : i ≠ n) : copied D (fun z => left z && !z.sameKey (key n)) c i = copied D left c i := by
  simp [copied, sameKey_key, h]
theorem copied_same {H : Type} {D : DataW H} {left : Lit → Bool} {c : Nat → List (List Nat)} {n : Nat} (h : Maps.has D (key n) = true) : copied D (fun z => left z && !z.sameKey (key n)) c n = c n := by
  simp [copied, sameKey_key, h]
theorem copied_left {H : Type} {D : DataW H} {left : Lit → Bool} {c : Nat → List (List Nat)} {n : Nat} (hl : left (key n) = true) : copied D left c n = [] := by
  simp [copied, hl]
theorem Copying.step {w1 w2 w3 : World} {a' b' : Nat} {d : Dk} {D : DataW Value} {left : Lit → Bool} {D' : DataW Value} {V' : Nat → Value} (h : Copying w1 a' b' d D left D' V') {n : Nat} (hn : n < 34) (hh : Maps.has D (key n) = true) (hl : left (key n) = true) (hne : d.cache n ≠ [])
    (hk : ∀ kl, Maps.has D kl = true → ∃ n, n < 34 ∧ kl = key n) {v : Value} (hb : Below w1.heap.size w1 w2) (hrow : w2.ownsRow w1.heap.size 55 64 v (d.cache n).length (vals (d.cache n).flatten))
    (hg : w2.grownBy w3 (some b')) {N : Nat} (hown : w3.ownsMap Try.prog 3 held b' N (D'.put (key n) (.held v))) : Copying w3 a' b' d D (fun z => left z && !z.sameKey (key n)) (D'.put (key n) (.held v)) (upd V' n v) := by
  have hmap := h.own.isMap
  have hik : WideAt.IsKeyLit (key n) := trivial
  have hlb : b' < w1.heap.size := h.own.lt
  have hla : a' < w1.heap.size := lt_of_heap h.row
  obtain ⟨es, clock, hmb⟩ := World.ownsMap.at_ h.own
  have hs2 : CellsStay w1 w2 := CellsStay.of_below hb
  have hs3 : CellsStay w2 w3 := CellsStay.of_grown hg ((hb.block b' hlb).trans hmb) (fun _ _ _ e => by cases e)
  have hhas : ∀ kl, Maps.has (D'.put (key n) (.held v)) kl = Maps.has D kl := fun kl => by
    by_cases e : kl = key n
    · rw [e, has_put_same hmap hik, hh]
    · rw [has_put_other e, h.has]
  have hge : ∀ g, v.ownBlock = some g → w1.heap.size ≤ g ∧ g < w2.heap.size := fun g e => by
    rcases hrow.2 with ⟨e2, _⟩ | ⟨g', cap, cur, e2, hg', hh', _⟩
    · rw [e2] at e; cases e
    · rw [e2] at e
      obtain rfl : g' = g := by simpa [Value.ownBlock] using e
      exact ⟨hg', lt_of_heap hh'⟩
  have hz3 := hg.size
  refine ⟨own34 hown (fun kl hkl => hk kl (by rw [← hhas kl]; exact hkl)), hhas, hs3 _ _ _ _ (hs2 _ _ _ _ h.row), fun m hm => ?_, ⟨fun m hm => ?_, fun m g hm e => ?_, fun m m' g hm hm' hne' e => ?_⟩⟩
  · by_cases e : m = n
    · subst e
      rw [copied_same hh, upd_same, atKey_put_same hmap hik]
      exact ⟨fun _ => rfl, fun e => absurd e hne⟩
    · rw [copied_other e, upd_other _ _ e, atKey_put_other (fun h => e (key_inj h))]
      exact h.new m hm
  · by_cases e : m = n
    · subst e
      rw [copied_same hh, upd_same]
      exact owns_stay (own_mono hrow (Nat.zero_le _)) hs3
    · rw [copied_other e, upd_other _ _ e]
      exact owns_stay (owns_stay (h.slots.own m hm) hs2) hs3
  · by_cases e2 : m = n
    · subst e2
      rw [upd_same] at e
      have := hge g e
      omega
    · rw [upd_other _ _ e2] at e
      have := h.slots.mine m g hm e
      have := hb.size
      omega
  · by_cases e1 : m = n
    · subst e1
      rw [upd_same] at e
      rw [upd_other _ _ (fun h => hne' h.symm)]
      intro h2
      have := h.slots.mine m' g hm' h2
      have := hge g e
      omega
    · rw [upd_other _ _ e1] at e
      by_cases e2 : m' = n
      · subst e2
        rw [upd_same]
        intro h2
        have := h.slots.mine m g hm e
        have := hge g h2
        omega
      · rw [upd_other _ _ e2]
        exact h.slots.apart m m' g hm hm' hne' e
theorem Copying.done {wr : World} {a' b' : Nat} {d : Dk} {D : DataW Value} {left : Lit → Bool} {D' : DataW Value} {V' : Nat → Value} (h : Copying wr a' b' d D left D' V') (hl : ∀ kl, left kl = false) (ha : a' < wr.heap.size) (hb : a' ≤ b')
    (hk : ∀ kl, Maps.has D kl = true → ∃ n, n < 34 ∧ kl = key n) (hD : ∀ n, n < 34 → Maps.has D (key n) = !(d.cache n).isEmpty) (hsec : ∀ n, n < 34 → Sec (d.dur n)) (hput : ∀ n, n < 34 → ∀ b ∈ d.cache n, Sec b) : Disk wr (fun k => a' ≤ k ∧ k < wr.heap.size) a' d := by
  have hc : ∀ n, n < 34 → copied D left d.cache n = d.cache n := fun n hn => by
    unfold copied
    rw [hl, hD n hn]
    cases d.cache n <;> rfl
  refine ⟨⟨Nat.le_refl _, ha⟩, fun k hk => hk.2, hsec, hput, some b', h.row, Or.inr ⟨b', V', rfl, ⟨hb, h.own.lt⟩, ⟨D', h.own, fun kl hkl => hk kl (by rw [← h.has]; exact hkl), fun n hn => ⟨by rw [h.has, hD n hn], ?_⟩⟩, ⟨fun n hn => by rw [← hc n hn]; exact h.slots.own n hn, h.slots.mine, h.slots.apart⟩⟩⟩
  have h1 := h.new n hn
  by_cases e : copied D left d.cache n = []
  · rw [h1.2 e]
    refine atKey_of_not_has ?_ _
    rw [h.has, hD n hn, ← hc n hn, e]; rfl
  · exact h1.1 e

end Go.Proofs.Ytgkbhdecohlpmaa.Dk
