/-
  Texts Mine, Finds, joined.
-/
import Derived.Deep.AppendLies
import Derived.Test.YtkajcgpkldofjaaDoorJF3
set_option linter.all false
section
/-
  A row of records of the call's own, beside a disk whose blocks turn.
-/
namespace Go.Proofs.YtkajcgpkldofjaaDoor
open Go.RowKit Fm

theorem goes_keep {w w' : World} {S : Nat → Prop} {a : Nat} {d' : Dk.Dk} (h : Dk.Goes w w' S a d') : ∀ b, b < w.heap.size → ¬ S b → w'.heap[b]? = w.heap[b]? := by
  obtain ⟨S', _, hk, _⟩ := h
  exact fun b hb hs => hk.block b hb hs
theorem goes_below {w w' : World} {S : Nat → Prop} {a N : Nat} {d' : Dk.Dk} (h : Dk.Goes w w' S a d') (hN : N ≤ w.heap.size) (hS : ∀ k, S k → N ≤ k) : Below N w w' := by
  obtain ⟨S', _, hk, _⟩ := h
  exact hk.to_below hN fun k h1 h2 => by have := hS k h2; omega
theorem widths_low {w w' : World} {N : Nat} (h : Widths w) (hb : Below N w w') (hN : 0 < N) : Widths w' := by
  obtain ⟨h0, h1, h2, h3, h4, h5⟩ := h
  exact ⟨Nat.lt_of_lt_of_le h0 hb.size, (hb.cell (by simpa using hN)).trans h1, (hb.cell (by simpa using hN)).trans h2, (hb.cell (by simpa using hN)).trans h3, (hb.cell (by simpa using hN)).trans h4, (hb.cell (by simpa using hN)).trans h5⟩

/-- v is a row of records of the call's own, their bytes in blocks of P. -/
def PutV (w : World) (N : Nat) (P : Nat → Prop) (v : Value) (rows : List (List Nat)) : Prop :=
  ∃ xs : List Value, w.ownsRow N 24 1 v rows.length xs ∧ xs.length = rows.length ∧ ∀ i (h : i < rows.length), ∃ u, xs[i]? = some u ∧ OneP w P u rows[i]
section
variable {w w' : World} {N : Nat} {P P' : Nat → Prop} {v : Value} {rows : List (List Nat)}
theorem PutV.nil_ (w : World) (N : Nat) (P : Nat → Prop) : PutV w N P (.slice none 0 0) [] := ⟨[], World.ownsRow_nil _ _ _ _, rfl, fun _ h => absurd h (by simp)⟩
theorem own_ge' {e : TypeId} {size n : Nat} {xs : List Value} (h : w.ownsRow N e size v n xs) : ∀ k, v.ownBlock = some k → N ≤ k := by
  intro k hk
  rcases h.2 with ⟨rfl, _⟩ | ⟨g, cap, cur, rfl, hg, _⟩
  · simp [Value.ownBlock] at hk
  · have : g = k := by simpa [Value.ownBlock] using hk
    omega
theorem own_kept {e : TypeId} {size n : Nat} {xs : List Value} (h : w.ownsRow N e size v n xs) (hk : ∀ b, b < w.heap.size → v.ownBlock = some b → w'.heap[b]? = w.heap[b]?) : w'.ownsRow N e size v n xs := by
  obtain ⟨h1, h2⟩ := h
  refine ⟨h1, ?_⟩
  rcases h2 with h2 | ⟨g, cap, cur, rfl, hg, hh, r⟩
  · exact Or.inl h2
  · exact Or.inr ⟨g, cap, cur, rfl, hg, (hk g (Array.getElem?_eq_some_iff.1 hh).1 rfl).trans hh, r⟩
theorem PutV.ge (h : PutV w N P v rows) : ∀ k, v.ownBlock = some k → N ≤ k := by
  obtain ⟨xs, h1, _⟩ := h
  exact own_ge' h1
theorem PutV.keep (h : PutV w N P v rows) (hk : ∀ b, b < w.heap.size → (P b ∨ v.ownBlock = some b) → w'.heap[b]? = w.heap[b]?) : PutV w' N P v rows := by
  obtain ⟨xs, h1, h2, h3⟩ := h
  refine ⟨xs, own_kept h1 (fun b hb e => hk b hb (Or.inr e)), h2, fun i hi => ?_⟩
  obtain ⟨u, e, ho⟩ := h3 i hi
  exact ⟨u, e, ho.keep fun b hp hb => hk b hb (Or.inl hp)⟩
theorem PutV.mono (h : PutV w N P v rows) (hP : ∀ b, P b → b < w.heap.size → P' b) : PutV w N P' v rows := by
  obtain ⟨xs, h1, h2, h3⟩ := h
  refine ⟨xs, h1, h2, fun i hi => ?_⟩
  obtain ⟨u, e, ho⟩ := h3 i hi
  exact ⟨u, e, ho.mono hP⟩
/-- it is no block of another kind of cells -/
theorem PutV.ne (h : PutV w N P v rows) {b : Nat} {cs : Array Value} {t : TypeId} {fr : Nat × Nat} (hb : w.heap[b]? = some (.cells cs t fr)) (ht : t ≠ 24) : v.ownBlock ≠ some b := by
  obtain ⟨xs, ⟨_, h1⟩, _⟩ := h
  rcases h1 with ⟨rfl, _⟩ | ⟨g, cap, cur, rfl, _, hh, _⟩
  · simp [Value.ownBlock]
  · intro e
    have : g = b := by simpa [Value.ownBlock] using e
    subst this
    rw [hb] at hh
    cases hh
    exact ht rfl
/-- as rows to read -/
theorem PutV.rows_ (h : PutV w N P v rows) : ∃ A c, v = .slice A rows.length c ∧ RowsP w (fun _ => True) A rows ∧ rows.length ≤ c ∧ (A = none → c = 0) := by
  obtain ⟨xs, ⟨h0, h1⟩, hl, h2⟩ := h
  have hx : ∀ r ∈ rows, ∀ x ∈ r, x < 256 := fun r hr => by
    obtain ⟨i, hi, rfl⟩ := List.mem_iff_getElem.1 hr
    obtain ⟨u, _, ho⟩ := h2 i hi
    exact ho.lt
  rcases h1 with ⟨rfl, h3⟩ | ⟨g, cap, cur, rfl, hg, hh, hn, hc, hsz, ht⟩
  · obtain rfl := List.eq_nil_of_length_eq_zero h3
    exact ⟨none, 0, rfl, RowsP.nil_, Nat.le_refl _, fun _ => rfl⟩
  · refine ⟨some ⟨g, 0, none⟩, cap, rfl, ⟨hx, fun _ => ⟨g, 0, rfl, trivial, fun i hi => ?_⟩⟩, hn, fun e => by cases e⟩
    obtain ⟨u, e, ho⟩ := h2 i hi
    refine ⟨u, ?_, ho.mono fun _ _ _ => trivial⟩
    rw [Nat.zero_add, cell_of_row w g i cur _ _ hh, ← e]
    have h4 := congrArg (·[i]?) ht
    simp only [List.getElem?_take, Nat.mul_one, hi, if_true] at h4
    rw [← h4]; simp
/-- one more record -/
theorem PutV.more {g cap : Nat} {u : Value} {b : List Nat} (h : PutV w N P v rows) {xs : List Value} (hx : xs.length = rows.length ∧ ∀ i (h : i < rows.length), ∃ u, xs[i]? = some u ∧ OneP w P u rows[i])
    (ho : w'.ownsRow N 24 1 (.slice (some ⟨g, 0, none⟩) (rows.length + 1) cap) (rows.length + 1) (xs ++ [u])) (hk : ∀ k, P k → k < w.heap.size → w'.heap[k]? = w.heap[k]?) (hu : OneP w P u b) :
    PutV w' N P (.slice (some ⟨g, 0, none⟩) (rows.length + 1) cap) (rows ++ [b]) := by
  refine ⟨xs ++ [u], by simpa using ho, by simp [hx.1], fun i hi => ?_⟩
  by_cases h1 : i < rows.length
  · obtain ⟨y, e, hy⟩ := hx.2 i h1
    refine ⟨y, by rw [List.getElem?_append_left (by omega)]; exact e, ?_⟩
    rw [List.getElem_append_left h1]
    exact hy.keep hk
  · have h2 : i = rows.length := by simp at hi; omega
    subst h2
    refine ⟨u, by rw [← hx.1]; simp, ?_⟩
    rw [List.getElem_append_right (by omega)]
    simpa using hu.keep hk
end

/-- The state between two rounds of a law that appends: the disk at a, the log at blog, the records so far in v. -/
structure Wrote (w0 w : World) (S : Nat → Prop) (d : Dk.Dk) (a blog : Nat) (t inc : Int) (P : List (List Nat)) (Kd : Nat → Option Fr) : Prop where
  disk : Dk.Disk w S a d
  up : d.down = false
  own : ∀ k, S k → w0.heap.size ≤ k
  log : ¬ S blog ∧ w0.heap.size ≤ blog ∧ w.heap[blog]? = some (.cells #[.int .i64 t, .int .i64 (t + (total P : Nat))] 23 (0, 0))
  recs : Recs t inc P
  fits : total P ≤ 24
  cache : ∀ n, (d.cache n).length ≤ total P
  lies : Lies d t Kd (KF (framesOf t inc P)) (total P)
  low : Below w0.heap.size w0 w
/-- .. behind Append, its answer in a box of its own -/
structure Mid (w0 X : World) (S : Nat → Prop) (d : Dk.Dk) (a blog nb : Nat) (t n0 n1 : Int) (v : Value) (P : List (List Nat)) : Prop where
  disk : Dk.Disk X S a d
  own : ∀ k, S k → w0.heap.size ≤ k
  nlog : ¬ S blog ∧ w0.heap.size ≤ blog
  nnb : ¬ S nb ∧ w0.heap.size ≤ nb
  ne : nb ≠ blog
  low : Below w0.heap.size w0 X
  put : PutV X w0.heap.size (· < w0.heap.size) v P
  nput : ∀ g, v.ownBlock = some g → ¬ S g
  log : X.heap[blog]? = some (.cells #[.int .i64 t, .int .i64 n0] 23 (0, 0))
  nxt : X.heap[nb]? = some (.cells #[.int .i64 t, .int .i64 n1] 23 (0, 0))
/-- how a law's log box stays -/
theorem Wrote.below {w0 w w' : World} {S : Nat → Prop} {d : Dk.Dk} {a blog : Nat} {t inc : Int} {P : List (List Nat)} {Kd : Nat → Option Fr} (h : Wrote w0 w S d a blog t inc P Kd) (hb : Below w.heap.size w w') : Wrote w0 w' S d a blog t inc P Kd :=
  ⟨h.disk.below hb (Nat.le_refl _), h.up, h.own, ⟨h.log.1, h.log.2.1, (hb.block _ (Array.getElem?_eq_some_iff.1 h.log.2.2).1).trans h.log.2.2⟩, h.recs, h.fits, h.cache, h.lies, h.low.trans (hb.mono h.low.size)⟩
theorem Wrote.keep {w0 w w' : World} {S : Nat → Prop} {d : Dk.Dk} {a blog : Nat} {t inc : Int} {P : List (List Nat)} {Kd : Nat → Option Fr} (h : Wrote w0 w S d a blog t inc P Kd) (hs : w.heap.size ≤ w'.heap.size)
    (hk : ∀ b, b < w.heap.size → (S b ∨ b = blog) → w'.heap[b]? = w.heap[b]?) (hb : Below w0.heap.size w w') : Wrote w0 w' S d a blog t inc P Kd :=
  ⟨h.disk.keep (fun k hk1 => hk k (h.disk.old k hk1) (Or.inl hk1)) hs, h.up, h.own, ⟨h.log.1, h.log.2.1, (hk _ (Array.getElem?_eq_some_iff.1 h.log.2.2).1 (Or.inr rfl)).trans h.log.2.2⟩, h.recs, h.fits, h.cache, h.lies, h.low.trans hb⟩
/-- a flush -/
theorem Wrote.flush {w0 w w' : World} {S : Nat → Prop} {d : Dk.Dk} {a blog : Nat} {t inc : Int} {P : List (List Nat)} {Kd : Nat → Option Fr} (h : Wrote w0 w S d a blog t inc P Kd) (hg : Dk.Goes w w' S a d.flush) :
    ∃ S', Wrote w0 w' S' d.flush a blog t inc P (KF (framesOf t inc P)) ∧ (∀ k, S' k → S k ∨ w.heap.size ≤ k) ∧ ∀ b, b < w.heap.size → ¬ S b → w'.heap[b]? = w.heap[b]? := by
  have hk := goes_keep hg
  have hlow := goes_below hg h.low.size h.own
  obtain ⟨S', hd, _, hs⟩ := hg
  have hlt := (Array.getElem?_eq_some_iff.1 h.log.2.2).1
  refine ⟨S', ⟨hd, h.up, fun k hk' => ?_, ⟨fun e => ?_, h.log.2.1, (hk _ hlt h.log.1).trans h.log.2.2⟩, h.recs, h.fits, fun n => by simp [Dk.Dk.flush], h.lies.flush _, h.low.trans hlow⟩, hs, hk⟩
  · rcases hs k hk' with h1 | h1
    · exact h.own k h1
    · exact Nat.le_trans h.low.size h1
  · rcases hs _ e with h1 | h1
    · exact h.log.1 h1
    · omega
/-- .. and what is the call's own stays -/
theorem PutV.goes {w w' : World} {N : Nat} {S S' : Nat → Prop} {v : Value} {rows : List (List Nat)} (h : PutV w N (· < N) v rows) (hS : ∀ k, S k → N ≤ k) (hown : ∀ g, v.ownBlock = some g → ¬ S g) (hs : ∀ k, S' k → S k ∨ w.heap.size ≤ k)
    (hk : ∀ b, b < w.heap.size → ¬ S b → w'.heap[b]? = w.heap[b]?) : PutV w' N (· < N) v rows ∧ ∀ g, v.ownBlock = some g → ¬ S' g := by
  refine ⟨h.keep fun b hb h1 => hk b hb fun e => ?_, fun g hg e => ?_⟩
  · rcases h1 with h1 | h1
    · have h2 := hS b e
      have h3 : b < N := h1
      omega
    · exact hown b h1 e
  · rcases hs g e with h1 | h1
    · exact hown g hg h1
    · obtain ⟨xs, ⟨_, h2⟩, _⟩ := h
      rcases h2 with ⟨rfl, _⟩ | ⟨g', cap, cur, rfl, _, hh, _⟩
      · simp [Value.ownBlock] at hg
      · have : g' = g := by simpa [Value.ownBlock] using hg
        subst this
        have := (Array.getElem?_eq_some_iff.1 hh).1
        omega

theorem Mid.below {w0 X X' : World} {S : Nat → Prop} {d : Dk.Dk} {a blog nb : Nat} {t n0 n1 : Int} {v : Value} {P : List (List Nat)} (h : Mid w0 X S d a blog nb t n0 n1 v P) (hb : Below X.heap.size X X') : Mid w0 X' S d a blog nb t n0 n1 v P :=
  ⟨h.disk.below hb (Nat.le_refl _), h.own, h.nlog, h.nnb, h.ne, h.low.trans (hb.mono h.low.size), h.put.keep fun b hb1 _ => hb.block b hb1, h.nput, (hb.block _ (Array.getElem?_eq_some_iff.1 h.log).1).trans h.log, (hb.block _ (Array.getElem?_eq_some_iff.1 h.nxt).1).trans h.nxt⟩
/-- the call, then the box -/
theorem mid_oneK {w0 W w7 : World} {S : Nat → Prop} {d d7 : Dk.Dk} {a blog : Nat} {t inc n1 : Int} {v : Value} {P : List (List Nat)} {Kd : Nat → Option Fr} (hw : Wrote w0 W S d a blog t inc P Kd) (hp : PutV W w0.heap.size (· < w0.heap.size) v P)
    (ho : ∀ g, v.ownBlock = some g → ¬ S g) (hg : Dk.Goes W w7 S a d7) :
    ∃ S', Mid w0 ((w7.alloc (.cells #[.int .i64 0, .int .i64 0] 23)).setRow w7.heap.size #[.int .i64 t, .int .i64 n1]) S' d7 a blog w7.heap.size t (t + (total P : Nat)) n1 v P ∧ (∀ k, S' k → S k ∨ W.heap.size ≤ k) ∧ ∀ b, b < W.heap.size → ¬ S b → ((w7.alloc (.cells #[.int .i64 0, .int .i64 0] 23)).setRow w7.heap.size #[.int .i64 t, .int .i64 n1]).heap[b]? = W.heap[b]? := by
  have hk := goes_keep hg
  have hlow := goes_below hg hw.low.size hw.own
  obtain ⟨S', hd, hkk, hs⟩ := hg
  obtain ⟨hp7, ho7⟩ := hp.goes hw.own ho hs hk
  have hlt := (Array.getElem?_eq_some_iff.1 hw.log.2.2).1
  have hsz : W.heap.size ≤ w7.heap.size := hkk.size
  have hlog7 := (hk _ hlt hw.log.1).trans hw.log.2.2
  have hb : Below w7.heap.size w7 ((w7.alloc (.cells #[.int .i64 0, .int .i64 0] 23)).setRow w7.heap.size #[.int .i64 t, .int .i64 n1]) := below_setRow ((Below.refl _ w7).alloc (Nat.le_refl _) _) (Nat.le_refl _) _
  refine ⟨S', ⟨hd.below hb (Nat.le_refl _), fun k e => ?_, ⟨fun e => ?_, hw.log.2.1⟩, ⟨fun e => Nat.lt_irrefl _ (hd.old _ e), Nat.le_trans hw.low.size hsz⟩, by omega, (hw.low.trans hlow).trans (hb.mono (Nat.le_trans hw.low.size hsz)), hp7.keep fun b hb1 _ => hb.block b hb1, ho7,
    (hb.block _ (by omega)).trans hlog7, setRow_heap _ _ _ _ _ _ (heap_alloc_new w7 _)⟩, hs, fun b hb1 hb2 => (hb.block b (by omega)).trans (hk b hb1 hb2)⟩
  · rcases hs k e with h1 | h1
    · exact hw.own k h1
    · exact Nat.le_trans hw.low.size h1
  · rcases hs _ e with h1 | h1
    · exact hw.log.1 h1
    · omega
/-- the box, then the call -/
theorem mid_twoK {w0 W w7 : World} {S : Nat → Prop} {d d7 : Dk.Dk} {a blog : Nat} {t inc n1 : Int} {v : Value} {P : List (List Nat)} {Kd : Nat → Option Fr} (hw : Wrote w0 W S d a blog t inc P Kd) (hp : PutV W w0.heap.size (· < w0.heap.size) v P)
    (ho : ∀ g, v.ownBlock = some g → ¬ S g) (hg : Dk.Goes (W.alloc (.cells #[.int .i64 0, .int .i64 0] 23)) w7 S a d7) :
    ∃ S', Mid w0 (w7.setRow W.heap.size #[.int .i64 t, .int .i64 n1]) S' d7 a blog W.heap.size t (t + (total P : Nat)) n1 v P ∧ w7.heap[W.heap.size]? = some (.cells #[.int .i64 0, .int .i64 0] 23 (0, 0)) ∧ (∀ k, S' k → S k ∨ W.heap.size ≤ k) ∧ ∀ b, b < W.heap.size → ¬ S b → (w7.setRow W.heap.size #[.int .i64 t, .int .i64 n1]).heap[b]? = W.heap[b]? := by
  have hb0 : Below W.heap.size W (W.alloc (.cells #[.int .i64 0, .int .i64 0] 23)) := (Below.refl _ W).alloc (Nat.le_refl _) _
  have hz : (W.alloc (.cells #[.int .i64 0, .int .i64 0] 23)).heap.size = W.heap.size + 1 := by simp
  have hw1 := hw.below hb0
  have hp1 := hp.keep (w' := W.alloc (.cells #[.int .i64 0, .int .i64 0] 23)) fun b hb1 _ => hb0.block b hb1
  have hk := goes_keep hg
  have hlow := goes_below hg hw1.low.size hw.own
  obtain ⟨S', hd, hkk, hs⟩ := hg
  obtain ⟨hp7, ho7⟩ := hp1.goes hw.own ho hs hk
  have hlt := (Array.getElem?_eq_some_iff.1 hw.log.2.2).1
  have hsz : W.heap.size + 1 ≤ w7.heap.size := by rw [← hz]; exact hkk.size
  have hold := hw.disk.old
  have hnb : w7.heap[W.heap.size]? = some (.cells #[.int .i64 0, .int .i64 0] 23 (0, 0)) := (hk _ (by omega) (fun e => Nat.lt_irrefl _ (hold _ e))).trans (heap_alloc_new W _)
  have hlog7 := (hk blog (by omega) hw.log.1).trans hw1.log.2.2
  have hnS : ¬ S' W.heap.size := fun e => by
    rcases hs _ e with h1 | h1
    · exact Nat.lt_irrefl _ (hold _ h1)
    · omega
  have hset : ∀ b, b ≠ W.heap.size → (w7.setRow W.heap.size #[.int .i64 t, .int .i64 n1]).heap[b]? = w7.heap[b]? := fun b hb => setRow_other _ _ _ _ hb
  refine ⟨S', ⟨hd.keep (fun k hk1 => hset k (fun e => hnS (by rw [← e]; exact hk1))) (by simp [World.setRow]), fun k e => ?_, ⟨fun e => ?_, hw.log.2.1⟩, ⟨hnS, hw.low.size⟩, by omega, below_setRow (hw1.low.trans hlow) hw.low.size _, hp7.keep fun b hb1 h1 => hset b (fun e => ?_), ho7,
    (hset _ (by omega)).trans hlog7, setRow_heap _ _ _ _ _ _ hnb⟩, hnb, fun k e => (hs k e).imp id (fun h => by omega), fun b hb1 hb2 => (hset b (by omega)).trans ((hk b (by omega) hb2).trans (hb0.block b hb1))⟩
  · rcases hs k e with h1 | h1
    · exact hw.own k h1
    · exact Nat.le_trans hw1.low.size h1
  · rcases hs _ e with h1 | h1
    · exact hw.log.1 h1
    · omega
  · subst e
    rcases h1 with h1 | h1
    · have h2 := hw.low.size
      have h3 : W.heap.size < w0.heap.size := h1
      omega
    · exact hp7.ne hnb (by decide) h1
theorem mid_one {w0 W w7 : World} {S : Nat → Prop} {d d7 : Dk.Dk} {a blog : Nat} {t inc n1 : Int} {v : Value} {P : List (List Nat)} {Kd : Nat → Option Fr} (hw : Wrote w0 W S d a blog t inc P Kd) (hp : PutV W w0.heap.size (· < w0.heap.size) v P)
    (ho : ∀ g, v.ownBlock = some g → ¬ S g) (hg : Dk.Goes W w7 S a d7) :
    ∃ S', Mid w0 ((w7.alloc (.cells #[.int .i64 0, .int .i64 0] 23)).setRow w7.heap.size #[.int .i64 t, .int .i64 n1]) S' d7 a blog w7.heap.size t (t + (total P : Nat)) n1 v P := by
  obtain ⟨S', h, _⟩ := mid_oneK (n1 := n1) hw hp ho hg
  exact ⟨S', h⟩
theorem mid_two {w0 W w7 : World} {S : Nat → Prop} {d d7 : Dk.Dk} {a blog : Nat} {t inc n1 : Int} {v : Value} {P : List (List Nat)} {Kd : Nat → Option Fr} (hw : Wrote w0 W S d a blog t inc P Kd) (hp : PutV W w0.heap.size (· < w0.heap.size) v P)
    (ho : ∀ g, v.ownBlock = some g → ¬ S g) (hg : Dk.Goes (W.alloc (.cells #[.int .i64 0, .int .i64 0] 23)) w7 S a d7) :
    ∃ S', Mid w0 (w7.setRow W.heap.size #[.int .i64 t, .int .i64 n1]) S' d7 a blog W.heap.size t (t + (total P : Nat)) n1 v P ∧ w7.heap[W.heap.size]? = some (.cells #[.int .i64 0, .int .i64 0] 23 (0, 0)) := by
  obtain ⟨S', h, h1, _⟩ := mid_twoK (n1 := n1) hw hp ho hg
  exact ⟨S', h, h1⟩
/-- nothing was appended -/
theorem Mid.no {w0 W X : World} {S S' : Nat → Prop} {d : Dk.Dk} {a blog nb : Nat} {t inc : Int} {v : Value} {P : List (List Nat)} {Kd : Nat → Option Fr} (hw : Wrote w0 W S' d a blog t inc P Kd) (h : Mid w0 X S d a blog nb t (t + (total P : Nat)) (t + (total P : Nat)) v P) :
    Wrote w0 (X.setRow blog #[.int .i64 t, .int .i64 (t + (total P : Nat))]) S d a blog t inc P Kd ∧ PutV (X.setRow blog #[.int .i64 t, .int .i64 (t + (total P : Nat))]) w0.heap.size (· < w0.heap.size) v P := by
  have hset : ∀ b, b ≠ blog → (X.setRow blog #[.int .i64 t, .int .i64 (t + (total P : Nat))]).heap[b]? = X.heap[b]? := fun b hb => setRow_other _ _ _ _ hb
  refine ⟨⟨h.disk.keep (fun k hk1 => hset k (fun e => h.nlog.1 (by rw [← e]; exact hk1))) (by simp [World.setRow]), hw.up, h.own, ⟨h.nlog.1, h.nlog.2, setRow_heap _ _ _ _ _ _ h.log⟩, hw.recs, hw.fits, hw.cache, hw.lies, below_setRow h.low h.nlog.2 _⟩, h.put.keep fun b _ h1 => hset b fun e => ?_⟩
  subst e
  rcases h1 with h1 | h1
  · have h2 := h.nlog.2
    have h3 : b < w0.heap.size := h1
    omega
  · exact h.put.ne h.log (by decide) h1
/-- a record was appended -/
theorem Mid.yes {w0 W X X2 : World} {S S' : Nat → Prop} {d : Dk.Dk} {a blog nb g cap : Nat} {t inc : Int} {v u : Value} {P : List (List Nat)} {b : List Nat} {xs : List Value} {Kd : Nat → Option Fr} (hw : Wrote w0 W S' d a blog t inc P Kd) (hE : cutE b.length (t + (total P : Nat)) inc = 0) (hb : ∀ x ∈ b, x < 256) (hf : total P + cutN b.length ≤ 24)
    (h : Mid w0 X S (putsD d (cutAll b (t + (total P : Nat)) inc)) a blog nb t (t + (total P : Nat)) (t + (total P : Nat) + (cutN b.length : Nat)) v P)
    (hxs : xs.length = P.length ∧ ∀ i (h : i < P.length), ∃ u, xs[i]? = some u ∧ OneP X (· < w0.heap.size) u P[i])
    (hrow : X2.ownsRow w0.heap.size 24 1 (.slice (some ⟨g, 0, none⟩) (P.length + 1) cap) (P.length + 1) (xs ++ [u])) (hgr : (X.alloc (.cells #[u] 24)).grownBy X2 v.ownBlock) (hor : v.ownBlock = some g ∨ g = X.heap.size + 1) (hu : OneP X (· < w0.heap.size) u b) :
    X2.heap[blog]? = some (.cells #[.int .i64 t, .int .i64 (t + (total P : Nat))] 23 (0, 0)) ∧ X2.heap[nb]? = some (.cells #[.int .i64 t, .int .i64 (t + (total P : Nat) + (cutN b.length : Nat))] 23 (0, 0)) ∧
    Wrote w0 (X2.setRow blog #[.int .i64 t, .int .i64 (t + (total P : Nat) + (cutN b.length : Nat))]) S (putsD d (cutAll b (t + (total P : Nat)) inc)) a blog t inc (P ++ [b]) Kd ∧
    PutV (X2.setRow blog #[.int .i64 t, .int .i64 (t + (total P : Nat) + (cutN b.length : Nat))]) w0.heap.size (· < w0.heap.size) (.slice (some ⟨g, 0, none⟩) (P.length + 1) cap) (P ++ [b]) ∧
    ∀ k, (Value.slice (some ⟨g, 0, none⟩) (P.length + 1) cap).ownBlock = some k → ¬ S k := by
  have hsz : (X.alloc (.cells #[u] 24)).heap.size = X.heap.size + 1 := by simp
  have hge := h.put.ge
  have hlow0 : w0.heap.size ≤ X.heap.size := h.low.size
  have hkeep : ∀ k, k < X.heap.size → v.ownBlock ≠ some k → X2.heap[k]? = X.heap[k]? := fun k hk hne => (hgr.block k (by omega) (fun e => hne e.symm)).trans (Below.heap_alloc _ _ _ hk)
  have hsize : X.heap.size + 1 ≤ X2.heap.size := by have := hgr.size; omega
  have hll := (Array.getElem?_eq_some_iff.1 h.log).1
  have hln := (Array.getElem?_eq_some_iff.1 h.nxt).1
  have h1 := (hkeep blog hll (h.put.ne h.log (by decide))).trans h.log
  have h2 := (hkeep nb hln (h.put.ne h.nxt (by decide))).trans h.nxt
  have hlow : Below w0.heap.size w0 X2 := (h.low.alloc hlow0 (.cells #[u] 24)).grown hgr (by omega) (fun k e => hge k e)
  have hset : ∀ k, k ≠ blog → (X2.setRow blog #[.int .i64 t, .int .i64 (t + (total P : Nat) + (cutN b.length : Nat))]).heap[k]? = X2.heap[k]? := fun k hk => setRow_other _ _ _ _ hk
  have hd2 : Dk.Disk X2 S a (putsD d (cutAll b (t + (total P : Nat)) inc)) := h.disk.keep (fun k hk => hkeep k (h.disk.old k hk) (fun e => h.nput k e hk)) (by omega)
  have hput2 : PutV X2 w0.heap.size (· < w0.heap.size) (.slice (some ⟨g, 0, none⟩) (P.length + 1) cap) (P ++ [b]) :=
    h.put.more hxs hrow (fun k hk hk2 => hkeep k hk2 (fun e => by have := hge k e; have h3 : k < w0.heap.size := hk; omega)) hu
  have htot : total (P ++ [b]) = total P + cutN b.length := by rw [total_append]; simp [total]
  refine ⟨h1, h2, ⟨hd2.keep (fun k hk => hset k (fun e => h.nlog.1 (by rw [← e]; exact hk))) (by simp [World.setRow]), ?_, h.own, ⟨h.nlog.1, h.nlog.2, ?_⟩, hw.recs.append ⟨⟨hE, hb⟩, trivial⟩, by rw [htot]; exact hf, fun k => ?_, hw.lies.record hE hf, below_setRow hlow h.nlog.2 _⟩,
    hput2.keep (fun k hk h3 => hset k fun e => ?_), fun k hk => ?_⟩
  · rw [puts_down]; exact hw.up
  · have h3 := setRow_heap X2 blog _ #[.int .i64 t, .int .i64 (t + (total P : Nat) + (cutN b.length : Nat))] _ _ h1
    rw [htot, show t + ((total P + cutN b.length : Nat) : Int) = t + ((total P : Nat) : Int) + ((cutN b.length : Nat) : Int) by omega]
    exact h3
  · have h3 := puts_cache (cutAll b (t + (total P : Nat)) inc) d k
    rw [cutAll_length] at h3
    have h4 := hw.cache k
    omega
  · subst e
    rcases h3 with h3 | h3
    · have h4 := h.nlog.2
      have h5 : k < w0.heap.size := h3
      omega
    · exact hput2.ne h1 (by decide) h3
  · have hkg : g = k := by simpa [Value.ownBlock] using hk
    subst hkg
    rcases hor with h3 | h3
    · exact h.nput _ h3
    · intro e
      have := h.disk.old _ e
      omega

theorem app_call (hA : AppendSays) {w0 W : World} {S : Nat → Prop} {d : Dk.Dk} {a blog : Nat} {t inc : Int} {P : List (List Nat)} {Kd : Nat → Option Fr} (hw : Wrote w0 W S d a blog t inc P Kd) (hWd : Widths w0) {A : Option Addr} {b : List Nat} {c : Nat}
    (hy : ByP w0 (· < w0.heap.size) A b) (hl : b.length ≤ c ∧ c ≤ maxLen) (ht : 1 ≤ t ∧ t ≤ 1073741824) (hi : 0 ≤ inc ∧ inc ≤ 1048576) :
    Calls Tryd.prog 8 #[.pointer (some ⟨a, 0, none⟩), .agg #[.int .i64 t, .int .i64 (t + (total P : Nat))], .int .i64 inc, .slice A b.length c] W fun e w' =>
      e = .returned (.tuple #[.agg #[.int .i64 t, .int .i64 (if appE t (t + (total P : Nat)) inc b.length = 0 then t + (total P : Nat) + (cutN b.length : Nat) else t + (total P : Nat))], .int .i64 (appE t (t + (total P : Nat)) inc b.length)]) ∧
      Dk.Goes W w' S a (if appE t (t + (total P : Nat)) inc b.length = 0 then putsD d (cutAll b (t + (total P : Nat)) inc) else d) := by
  have hf := hw.fits
  refine hA W S a d t (t + (total P : Nat)) inc b A c hw.disk hw.up (fun n _ => by have := hw.cache n; omega) (widths_low hWd hw.low hWd.1) (fun e => by have := hw.own _ e; have := hWd.1; omega)
    ((hy.mono fun k hk _ => fun e => by have := hw.own k e; have h2 : k < w0.heap.size := hk; omega).keep fun k hk hk2 => hw.low.block k ?_) hl.1 hl.2 (by unfold I64; omega) (by unfold I64; omega) (by unfold I64; omega)
  exact hk2

/-- a disk and a log beside it -/
structure Bare (w0 w : World) (S : Nat → Prop) (d : Dk.Dk) (a blog : Nat) (t n1 : Int) : Prop where
  disk : Dk.Disk w S a d
  own : ∀ k, S k → w0.heap.size ≤ k
  nlog : ¬ S blog
  log : w.heap[blog]? = some (.cells #[.int .i64 t, .int .i64 n1] 23 (0, 0))
  low : Below w0.heap.size w0 w
theorem Wrote.bare {w0 w : World} {S : Nat → Prop} {d : Dk.Dk} {a blog : Nat} {t inc : Int} {P : List (List Nat)} {Kd : Nat → Option Fr} (h : Wrote w0 w S d a blog t inc P Kd) : Bare w0 w S d a blog t (t + (total P : Nat)) := ⟨h.disk, h.own, h.log.1, h.log.2.2, h.low⟩
theorem Bare.goes {w0 w w' : World} {S : Nat → Prop} {d d' : Dk.Dk} {a blog : Nat} {t n1 : Int} (h : Bare w0 w S d a blog t n1) (hg : Dk.Goes w w' S a d') :
    ∃ S', Bare w0 w' S' d' a blog t n1 ∧ (∀ k, S' k → S k ∨ w.heap.size ≤ k) ∧ ∀ b, b < w.heap.size → ¬ S b → w'.heap[b]? = w.heap[b]? := by
  have hk := goes_keep hg
  have hlow := goes_below hg h.low.size h.own
  obtain ⟨S', hd, _, hs⟩ := hg
  have hlt := (Array.getElem?_eq_some_iff.1 h.log).1
  refine ⟨S', ⟨hd, fun k e => ?_, fun e => ?_, (hk _ hlt h.nlog).trans h.log, h.low.trans hlow⟩, hs, hk⟩
  · rcases hs k e with h1 | h1
    · exact h.own k h1
    · exact Nat.le_trans h.low.size h1
  · rcases hs _ e with h1 | h1
    · exact h.nlog h1
    · omega
theorem Bare.below {w0 w w' : World} {S : Nat → Prop} {d : Dk.Dk} {a blog : Nat} {t n1 : Int} (h : Bare w0 w S d a blog t n1) (hb : Below w.heap.size w w') : Bare w0 w' S d a blog t n1 :=
  ⟨h.disk.below hb (Nat.le_refl _), h.own, h.nlog, (hb.block _ (Array.getElem?_eq_some_iff.1 h.log).1).trans h.log, h.low.trans (hb.mono h.low.size)⟩
theorem plan_low {w w' : World} {N : Nat} {A : Option Addr} {plan : List (Int × Int)} (h : Dk.PlanAt w N A plan) (hb : Below N w w') (hN : N ≤ w'.heap.size) : Dk.PlanAt w' w'.heap.size A plan := fun hn => by
  obtain ⟨b, off, e, hlt, hc⟩ := h hn
  exact ⟨b, off, e, by omega, fun j hj => ⟨(hb.cell hlt).trans (hc j hj).1, (hb.cell hlt).trans (hc j hj).2⟩⟩
theorem wr_crash {w0 W : World} {S : Nat → Prop} {d : Dk.Dk} {a blog : Nat} {t inc : Int} {P : List (List Nat)} {Kd : Nat → Option Fr} (hw : Wrote w0 W S d a blog t inc P Kd) {B : Option Addr} {cp : Nat} {plan : List (Int × Int)} (hp : Dk.PlanAt w0 w0.heap.size B plan) (hpl : plan.length ≤ 100)
    (hi : ∀ x ∈ plan, (-9223372036854775808 ≤ x.1 ∧ x.1 ≤ 9223372036854775807) ∧ -9223372036854775808 ≤ x.2 ∧ x.2 ≤ 9223372036854775807) :
    Calls Tryd.prog 15 #[.pointer (some ⟨a, 0, none⟩), .slice B plan.length cp] W fun e w' => e = .returned (.int .i64 0) ∧ Dk.Goes W w' S a (d.crash plan) :=
  Dk.crash_ok hw.disk hw.up (fun n _ => by have := hw.cache n; have := hw.fits; omega) (plan_low hp hw.low hw.low.size) (by omega) hi
end Go.Proofs.YtkajcgpkldofjaaDoor
end

section
/-
  JournalFinds, by contract, over what journal's calls are to answer.
-/
namespace Go.Proofs.YtkajcgpkldofjaaDoor
open Go.RowKit Fm
set_option maxRecDepth 100000

/-- behind a crash a beginning is found, and all that was flushed -/
theorem finds_end {t : Int} {q : Nat} {P : List (List Nat)} {D : Dk.Dk} (ht : 1 ≤ t) (hR : Recs t 3 P) (hq : q ≤ P.length) (hfit : total P ≤ 24)
    (hL : Lies D t (KF (framesOf t 3 (P.take q))) (KF (framesOf t 3 P)) (total P)) (plan : List (Int × Int)) :
    ∃ r, q ≤ r ∧ r ≤ P.length ∧ scanD { D.crash plan with down := false } t = (recsAt t (P.take r), t + (total (P.take r) : Nat)) := by
  obtain ⟨K', hK, hL'⟩ := hL.crash plan false
  have hP : P = P.take q ++ P.drop q := (List.take_append_drop q P).symm
  have hF : framesOf t 3 P = framesOf t 3 (P.take q) ++ framesOf (t + (total (P.take q) : Nat)) 3 (P.drop q) := by
    conv => lhs; rw [hP]
    exact framesOf_append _ _ _ _
  have hpre : ∀ (j : Nat) (f : Fr), (framesOf t 3 (P.take q))[j]? = some f → (framesOf t 3 P)[j]? = some f := fun j f hf => by
    rw [hF, List.getElem?_append_left (List.getElem?_eq_some_iff.1 hf).1]; exact hf
  have hrd : ∀ j : Nat, j < 24 → rdD { D.crash plan with down := false } (t + (j : Int)) = encF (K' j) := fun j hj => by
    rw [(hL' 0).rd j, Nat.mod_eq_of_lt hj]
  have hlen : ∀ (j : Nat) (f : Fr), (framesOf t 3 P)[j]? = some f → j < 24 := fun j f hf => by
    have h1 := (List.getElem?_eq_some_iff.1 hf).1
    rw [framesOf_length] at h1; omega
  obtain ⟨r, hr, hs, hm⟩ := scan_some (rd := rdD { D.crash plan with down := false }) (i := 3) P t 0 [] 24 hR (by omega) (fun j f hf => by
    rw [hrd j (hlen j f hf)]
    rcases hK j with h1 | h1
    · rw [h1]; unfold KF; rw [hf]; exact Or.inl rfl
    · rw [h1]; unfold KF
      cases h2 : (framesOf t 3 (P.take q))[j]? with
      | none => exact Or.inr enc_none
      | some g =>
        have h3 := hpre j g h2
        rw [hf] at h3
        cases h3
        exact Or.inl rfl) (fun hlt => by
    rw [hrd _ hlt]
    have h0 : (framesOf t 3 P)[total P]? = none := List.getElem?_eq_none (by rw [framesOf_length]; exact Nat.le_refl _)
    have h1 : (framesOf t 3 (P.take q))[total P]? = none := by
      cases h2 : (framesOf t 3 (P.take q))[total P]? with
      | none => rfl
      | some g => rw [hpre _ g h2] at h0; cases h0
    have h3 : K' (total P) = none := by rcases hK (total P) with h2 | h2 <;> rw [h2] <;> assumption
    rw [h3]; exact enc_none)
  refine ⟨r, hm q hq ?_ ?_, hr, ?_⟩
  · have := total_append (P.take q) (P.drop q)
    rw [← hP] at this; omega
  · intro j f hf
    have h1 := hpre j f hf
    rw [hrd j (hlen j f h1)]
    rcases hK j with h2 | h2
    · rw [h2]; unfold KF; rw [h1]; rfl
    · rw [h2]; unfold KF; rw [hf]; rfl
  · unfold scanD; rw [hs]; rfl

theorem suff7 {α β : Type} {Facts G : α → α → α → α → α → α → β → Prop} {Goal : Prop} (h : (∀ a b c d e f y, Facts a b c d e f y → G a b c d e f y) → Goal) (r : ∀ a b c d e f y, Facts a b c d e f y → G a b c d e f y) : Goal := h r
theorem suff {α β : Type} {Facts G : α → β → Prop} {Goal : Prop} (h : (∀ x y, Facts x y → G x y) → Goal) (r : ∀ x y, Facts x y → G x y) : Goal := h r
end Go.Proofs.YtkajcgpkldofjaaDoor
end
