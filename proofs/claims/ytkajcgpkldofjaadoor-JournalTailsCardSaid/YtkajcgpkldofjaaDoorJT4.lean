/-
  Texts Mine, Finds, Tails, Begun, TailsLaw, Big, Lift, FmLaid, RgLiftS, LiftR, Told, Steps, SaysLaw, Short, Append, JRead, joined.
-/
import Derived.Deep.AppendLies
import Derived.Deep.RegionHeld3
import Derived.Deep.DeepCutAuto
import Derived.ProofKit
import Derived.OpenShut
import Derived.Deep.Slices
import Derived.Carry
import Derived.Deep.Fields
import Derived.LaidMore
import Derived.Stop.Joined
import Derived.Test.YtkajcgpkldofjaaDoorJT3
set_option linter.all false
section
/-
  A row of records of the call's own, beside a disk whose blocks turn.
-/
namespace Go.Proofs.YtkajcgpkldofjaaDoor
open Go.RowKit Fm

theorem goes_keep {w w' : World} {S : Nat → Prop} {a : Nat} {d' : Dk.Dk} (h : Dk.Goes w w' S a d') : ∀ b, b < w.heap.size → ¬ S b → w'.heap[b]? = w.heap[b]? := by
  obtain ⟨S', _, hk, _⟩ := h
  exact fun b hb hs => hk.block b hb hs
theorem goes_below {w w' : World} {S : Nat → Prop} {a N : Nat} {d' : Dk.Dk} (h : Dk.Goes w w' S a d') (hN : N ≤ w.heap.size) (hS : ∀ k, S k → N ≤ k) : Below N w w' := by
  obtain ⟨S', _, hk, _⟩ := h
  exact hk.to_below hN fun k h1 h2 => by have := hS k h2; omega
theorem widths_low {w w' : World} {N : Nat} (h : Widths w) (hb : Below N w w') (hN : 0 < N) : Widths w' := by
  obtain ⟨h0, h1, h2, h3, h4, h5⟩ := h
  exact ⟨Nat.lt_of_lt_of_le h0 hb.size, (hb.cell (by simpa using hN)).trans h1, (hb.cell (by simpa using hN)).trans h2, (hb.cell (by simpa using hN)).trans h3, (hb.cell (by simpa using hN)).trans h4, (hb.cell (by simpa using hN)).trans h5⟩

/-- v is a row of records of the call's own, their bytes in blocks of P. -/
def PutV (w : World) (N : Nat) (P : Nat → Prop) (v : Value) (rows : List (List Nat)) : Prop :=
  ∃ xs : List Value, w.ownsRow N 24 1 v rows.length xs ∧ xs.length = rows.length ∧ ∀ i (h : i < rows.length), ∃ u, xs[i]? = some u ∧ OneP w P u rows[i]
section
variable {w w' : World} {N : Nat} {P P' : Nat → Prop} {v : Value} {rows : List (List Nat)}
theorem PutV.nil_ (w : World) (N : Nat) (P : Nat → Prop) : PutV w N P (.slice none 0 0) [] := ⟨[], World.ownsRow_nil _ _ _ _, rfl, fun _ h => absurd h (by simp)⟩
theorem own_ge' {e : TypeId} {size n : Nat} {xs : List Value} (h : w.ownsRow N e size v n xs) : ∀ k, v.ownBlock = some k → N ≤ k := by
  intro k hk
  rcases h.2 with ⟨rfl, _⟩ | ⟨g, cap, cur, rfl, hg, _⟩
  · simp [Value.ownBlock] at hk
  · have : g = k := by simpa [Value.ownBlock] using hk
    omega
theorem own_kept {e : TypeId} {size n : Nat} {xs : List Value} (h : w.ownsRow N e size v n xs) (hk : ∀ b, b < w.heap.size → v.ownBlock = some b → w'.heap[b]? = w.heap[b]?) : w'.ownsRow N e size v n xs := by
  obtain ⟨h1, h2⟩ := h
  refine ⟨h1, ?_⟩
  rcases h2 with h2 | ⟨g, cap, cur, rfl, hg, hh, r⟩
  · exact Or.inl h2
  · exact Or.inr ⟨g, cap, cur, rfl, hg, (hk g (Array.getElem?_eq_some_iff.1 hh).1 rfl).trans hh, r⟩
theorem PutV.ge (h : PutV w N P v rows) : ∀ k, v.ownBlock = some k → N ≤ k := by
  obtain ⟨xs, h1, _⟩ := h
  exact own_ge' h1
theorem PutV.keep (h : PutV w N P v rows) (hk : ∀ b, b < w.heap.size → (P b ∨ v.ownBlock = some b) → w'.heap[b]? = w.heap[b]?) : PutV w' N P v rows := by
  obtain ⟨xs, h1, h2, h3⟩ := h
  refine ⟨xs, own_kept h1 (fun b hb e => hk b hb (Or.inr e)), h2, fun i hi => ?_⟩
  obtain ⟨u, e, ho⟩ := h3 i hi
  exact ⟨u, e, ho.keep fun b hp hb => hk b hb (Or.inl hp)⟩
theorem PutV.mono (h : PutV w N P v rows) (hP : ∀ b, P b → b < w.heap.size → P' b) : PutV w N P' v rows := by
  obtain ⟨xs, h1, h2, h3⟩ := h
  refine ⟨xs, h1, h2, fun i hi => ?_⟩
  obtain ⟨u, e, ho⟩ := h3 i hi
  exact ⟨u, e, ho.mono hP⟩
/-- it is no block of another kind of cells -/
theorem PutV.ne (h : PutV w N P v rows) {b : Nat} {cs : Array Value} {t : TypeId} {fr : Nat × Nat} (hb : w.heap[b]? = some (.cells cs t fr)) (ht : t ≠ 24) : v.ownBlock ≠ some b := by
  obtain ⟨xs, ⟨_, h1⟩, _⟩ := h
  rcases h1 with ⟨rfl, _⟩ | ⟨g, cap, cur, rfl, _, hh, _⟩
  · simp [Value.ownBlock]
  · intro e
    have : g = b := by simpa [Value.ownBlock] using e
    subst this
    rw [hb] at hh
    cases hh
    exact ht rfl
/-- as rows to read -/
theorem PutV.rows_ (h : PutV w N P v rows) : ∃ A c, v = .slice A rows.length c ∧ RowsP w (fun _ => True) A rows ∧ rows.length ≤ c ∧ (A = none → c = 0) := by
  obtain ⟨xs, ⟨h0, h1⟩, hl, h2⟩ := h
  have hx : ∀ r ∈ rows, ∀ x ∈ r, x < 256 := fun r hr => by
    obtain ⟨i, hi, rfl⟩ := List.mem_iff_getElem.1 hr
    obtain ⟨u, _, ho⟩ := h2 i hi
    exact ho.lt
  rcases h1 with ⟨rfl, h3⟩ | ⟨g, cap, cur, rfl, hg, hh, hn, hc, hsz, ht⟩
  · obtain rfl := List.eq_nil_of_length_eq_zero h3
    exact ⟨none, 0, rfl, RowsP.nil_, Nat.le_refl _, fun _ => rfl⟩
  · refine ⟨some ⟨g, 0, none⟩, cap, rfl, ⟨hx, fun _ => ⟨g, 0, rfl, trivial, fun i hi => ?_⟩⟩, hn, fun e => by cases e⟩
    obtain ⟨u, e, ho⟩ := h2 i hi
    refine ⟨u, ?_, ho.mono fun _ _ _ => trivial⟩
    rw [Nat.zero_add, cell_of_row w g i cur _ _ hh, ← e]
    have h4 := congrArg (·[i]?) ht
    simp only [List.getElem?_take, Nat.mul_one, hi, if_true] at h4
    rw [← h4]; simp
/-- one more record -/
theorem PutV.more {g cap : Nat} {u : Value} {b : List Nat} (h : PutV w N P v rows) {xs : List Value} (hx : xs.length = rows.length ∧ ∀ i (h : i < rows.length), ∃ u, xs[i]? = some u ∧ OneP w P u rows[i])
    (ho : w'.ownsRow N 24 1 (.slice (some ⟨g, 0, none⟩) (rows.length + 1) cap) (rows.length + 1) (xs ++ [u])) (hk : ∀ k, P k → k < w.heap.size → w'.heap[k]? = w.heap[k]?) (hu : OneP w P u b) :
    PutV w' N P (.slice (some ⟨g, 0, none⟩) (rows.length + 1) cap) (rows ++ [b]) := by
  refine ⟨xs ++ [u], by simpa using ho, by simp [hx.1], fun i hi => ?_⟩
  by_cases h1 : i < rows.length
  · obtain ⟨y, e, hy⟩ := hx.2 i h1
    refine ⟨y, by rw [List.getElem?_append_left (by omega)]; exact e, ?_⟩
    rw [List.getElem_append_left h1]
    exact hy.keep hk
  · have h2 : i = rows.length := by simp at hi; omega
    subst h2
    refine ⟨u, by rw [← hx.1]; simp, ?_⟩
    rw [List.getElem_append_right (by omega)]
    simpa using hu.keep hk
end

/-- The state between two rounds of a law that appends: the disk at a, the log at blog, the records so far in v. -/
structure Wrote (w0 w : World) (S : Nat → Prop) (d : Dk.Dk) (a blog : Nat) (t inc : Int) (P : List (List Nat)) (Kd : Nat → Option Fr) : Prop where
  disk : Dk.Disk w S a d
  up : d.down = false
  own : ∀ k, S k → w0.heap.size ≤ k
  log : ¬ S blog ∧ w0.heap.size ≤ blog ∧ w.heap[blog]? = some (.cells #[.int .i64 t, .int .i64 (t + (total P : Nat))] 23 (0, 0))
  recs : Recs t inc P
  fits : total P ≤ 24
  cache : ∀ n, (d.cache n).length ≤ total P
  lies : Lies d t Kd (KF (framesOf t inc P)) (total P)
  low : Below w0.heap.size w0 w
/-- .. behind Append, its answer in a box of its own -/
structure Mid (w0 X : World) (S : Nat → Prop) (d : Dk.Dk) (a blog nb : Nat) (t n0 n1 : Int) (v : Value) (P : List (List Nat)) : Prop where
  disk : Dk.Disk X S a d
  own : ∀ k, S k → w0.heap.size ≤ k
  nlog : ¬ S blog ∧ w0.heap.size ≤ blog
  nnb : ¬ S nb ∧ w0.heap.size ≤ nb
  ne : nb ≠ blog
  low : Below w0.heap.size w0 X
  put : PutV X w0.heap.size (· < w0.heap.size) v P
  nput : ∀ g, v.ownBlock = some g → ¬ S g
  log : X.heap[blog]? = some (.cells #[.int .i64 t, .int .i64 n0] 23 (0, 0))
  nxt : X.heap[nb]? = some (.cells #[.int .i64 t, .int .i64 n1] 23 (0, 0))
/-- how a law's log box stays -/
theorem Wrote.below {w0 w w' : World} {S : Nat → Prop} {d : Dk.Dk} {a blog : Nat} {t inc : Int} {P : List (List Nat)} {Kd : Nat → Option Fr} (h : Wrote w0 w S d a blog t inc P Kd) (hb : Below w.heap.size w w') : Wrote w0 w' S d a blog t inc P Kd :=
  ⟨h.disk.below hb (Nat.le_refl _), h.up, h.own, ⟨h.log.1, h.log.2.1, (hb.block _ (Array.getElem?_eq_some_iff.1 h.log.2.2).1).trans h.log.2.2⟩, h.recs, h.fits, h.cache, h.lies, h.low.trans (hb.mono h.low.size)⟩
theorem Wrote.keep {w0 w w' : World} {S : Nat → Prop} {d : Dk.Dk} {a blog : Nat} {t inc : Int} {P : List (List Nat)} {Kd : Nat → Option Fr} (h : Wrote w0 w S d a blog t inc P Kd) (hs : w.heap.size ≤ w'.heap.size)
    (hk : ∀ b, b < w.heap.size → (S b ∨ b = blog) → w'.heap[b]? = w.heap[b]?) (hb : Below w0.heap.size w w') : Wrote w0 w' S d a blog t inc P Kd :=
  ⟨h.disk.keep (fun k hk1 => hk k (h.disk.old k hk1) (Or.inl hk1)) hs, h.up, h.own, ⟨h.log.1, h.log.2.1, (hk _ (Array.getElem?_eq_some_iff.1 h.log.2.2).1 (Or.inr rfl)).trans h.log.2.2⟩, h.recs, h.fits, h.cache, h.lies, h.low.trans hb⟩
/-- a flush -/
theorem Wrote.flush {w0 w w' : World} {S : Nat → Prop} {d : Dk.Dk} {a blog : Nat} {t inc : Int} {P : List (List Nat)} {Kd : Nat → Option Fr} (h : Wrote w0 w S d a blog t inc P Kd) (hg : Dk.Goes w w' S a d.flush) :
    ∃ S', Wrote w0 w' S' d.flush a blog t inc P (KF (framesOf t inc P)) ∧ (∀ k, S' k → S k ∨ w.heap.size ≤ k) ∧ ∀ b, b < w.heap.size → ¬ S b → w'.heap[b]? = w.heap[b]? := by
  have hk := goes_keep hg
  have hlow := goes_below hg h.low.size h.own
  obtain ⟨S', hd, _, hs⟩ := hg
  have hlt := (Array.getElem?_eq_some_iff.1 h.log.2.2).1
  refine ⟨S', ⟨hd, h.up, fun k hk' => ?_, ⟨fun e => ?_, h.log.2.1, (hk _ hlt h.log.1).trans h.log.2.2⟩, h.recs, h.fits, fun n => by simp [Dk.Dk.flush], h.lies.flush _, h.low.trans hlow⟩, hs, hk⟩
  · rcases hs k hk' with h1 | h1
    · exact h.own k h1
    · exact Nat.le_trans h.low.size h1
  · rcases hs _ e with h1 | h1
    · exact h.log.1 h1
    · omega
/-- .. and what is the call's own stays -/
theorem PutV.goes {w w' : World} {N : Nat} {S S' : Nat → Prop} {v : Value} {rows : List (List Nat)} (h : PutV w N (· < N) v rows) (hS : ∀ k, S k → N ≤ k) (hown : ∀ g, v.ownBlock = some g → ¬ S g) (hs : ∀ k, S' k → S k ∨ w.heap.size ≤ k)
    (hk : ∀ b, b < w.heap.size → ¬ S b → w'.heap[b]? = w.heap[b]?) : PutV w' N (· < N) v rows ∧ ∀ g, v.ownBlock = some g → ¬ S' g := by
  refine ⟨h.keep fun b hb h1 => hk b hb fun e => ?_, fun g hg e => ?_⟩
  · rcases h1 with h1 | h1
    · have h2 := hS b e
      have h3 : b < N := h1
      omega
    · exact hown b h1 e
  · rcases hs g e with h1 | h1
    · exact hown g hg h1
    · obtain ⟨xs, ⟨_, h2⟩, _⟩ := h
      rcases h2 with ⟨rfl, _⟩ | ⟨g', cap, cur, rfl, _, hh, _⟩
      · simp [Value.ownBlock] at hg
      · have : g' = g := by simpa [Value.ownBlock] using hg
        subst this
        have := (Array.getElem?_eq_some_iff.1 hh).1
        omega

theorem Mid.below {w0 X X' : World} {S : Nat → Prop} {d : Dk.Dk} {a blog nb : Nat} {t n0 n1 : Int} {v : Value} {P : List (List Nat)} (h : Mid w0 X S d a blog nb t n0 n1 v P) (hb : Below X.heap.size X X') : Mid w0 X' S d a blog nb t n0 n1 v P :=
  ⟨h.disk.below hb (Nat.le_refl _), h.own, h.nlog, h.nnb, h.ne, h.low.trans (hb.mono h.low.size), h.put.keep fun b hb1 _ => hb.block b hb1, h.nput, (hb.block _ (Array.getElem?_eq_some_iff.1 h.log).1).trans h.log, (hb.block _ (Array.getElem?_eq_some_iff.1 h.nxt).1).trans h.nxt⟩
/-- the call, then the box -/
theorem mid_oneK {w0 W w7 : World} {S : Nat → Prop} {d d7 : Dk.Dk} {a blog : Nat} {t inc n1 : Int} {v : Value} {P : List (List Nat)} {Kd : Nat → Option Fr} (hw : Wrote w0 W S d a blog t inc P Kd) (hp : PutV W w0.heap.size (· < w0.heap.size) v P)
    (ho : ∀ g, v.ownBlock = some g → ¬ S g) (hg : Dk.Goes W w7 S a d7) :
    ∃ S', Mid w0 ((w7.alloc (.cells #[.int .i64 0, .int .i64 0] 23)).setRow w7.heap.size #[.int .i64 t, .int .i64 n1]) S' d7 a blog w7.heap.size t (t + (total P : Nat)) n1 v P ∧ (∀ k, S' k → S k ∨ W.heap.size ≤ k) ∧ ∀ b, b < W.heap.size → ¬ S b → ((w7.alloc (.cells #[.int .i64 0, .int .i64 0] 23)).setRow w7.heap.size #[.int .i64 t, .int .i64 n1]).heap[b]? = W.heap[b]? := by
  have hk := goes_keep hg
  have hlow := goes_below hg hw.low.size hw.own
  obtain ⟨S', hd, hkk, hs⟩ := hg
  obtain ⟨hp7, ho7⟩ := hp.goes hw.own ho hs hk
  have hlt := (Array.getElem?_eq_some_iff.1 hw.log.2.2).1
  have hsz : W.heap.size ≤ w7.heap.size := hkk.size
  have hlog7 := (hk _ hlt hw.log.1).trans hw.log.2.2
  have hb : Below w7.heap.size w7 ((w7.alloc (.cells #[.int .i64 0, .int .i64 0] 23)).setRow w7.heap.size #[.int .i64 t, .int .i64 n1]) := below_setRow ((Below.refl _ w7).alloc (Nat.le_refl _) _) (Nat.le_refl _) _
  refine ⟨S', ⟨hd.below hb (Nat.le_refl _), fun k e => ?_, ⟨fun e => ?_, hw.log.2.1⟩, ⟨fun e => Nat.lt_irrefl _ (hd.old _ e), Nat.le_trans hw.low.size hsz⟩, by omega, (hw.low.trans hlow).trans (hb.mono (Nat.le_trans hw.low.size hsz)), hp7.keep fun b hb1 _ => hb.block b hb1, ho7,
    (hb.block _ (by omega)).trans hlog7, setRow_heap _ _ _ _ _ _ (heap_alloc_new w7 _)⟩, hs, fun b hb1 hb2 => (hb.block b (by omega)).trans (hk b hb1 hb2)⟩
  · rcases hs k e with h1 | h1
    · exact hw.own k h1
    · exact Nat.le_trans hw.low.size h1
  · rcases hs _ e with h1 | h1
    · exact hw.log.1 h1
    · omega
/-- the box, then the call -/
theorem mid_twoK {w0 W w7 : World} {S : Nat → Prop} {d d7 : Dk.Dk} {a blog : Nat} {t inc n1 : Int} {v : Value} {P : List (List Nat)} {Kd : Nat → Option Fr} (hw : Wrote w0 W S d a blog t inc P Kd) (hp : PutV W w0.heap.size (· < w0.heap.size) v P)
    (ho : ∀ g, v.ownBlock = some g → ¬ S g) (hg : Dk.Goes (W.alloc (.cells #[.int .i64 0, .int .i64 0] 23)) w7 S a d7) :
    ∃ S', Mid w0 (w7.setRow W.heap.size #[.int .i64 t, .int .i64 n1]) S' d7 a blog W.heap.size t (t + (total P : Nat)) n1 v P ∧ w7.heap[W.heap.size]? = some (.cells #[.int .i64 0, .int .i64 0] 23 (0, 0)) ∧ (∀ k, S' k → S k ∨ W.heap.size ≤ k) ∧ ∀ b, b < W.heap.size → ¬ S b → (w7.setRow W.heap.size #[.int .i64 t, .int .i64 n1]).heap[b]? = W.heap[b]? := by
  have hb0 : Below W.heap.size W (W.alloc (.cells #[.int .i64 0, .int .i64 0] 23)) := (Below.refl _ W).alloc (Nat.le_refl _) _
  have hz : (W.alloc (.cells #[.int .i64 0, .int .i64 0] 23)).heap.size = W.heap.size + 1 := by simp
  have hw1 := hw.below hb0
  have hp1 := hp.keep (w' := W.alloc (.cells #[.int .i64 0, .int .i64 0] 23)) fun b hb1 _ => hb0.block b hb1
  have hk := goes_keep hg
  have hlow := goes_below hg hw1.low.size hw.own
  obtain ⟨S', hd, hkk, hs⟩ := hg
  obtain ⟨hp7, ho7⟩ := hp1.goes hw.own ho hs hk
  have hlt := (Array.getElem?_eq_some_iff.1 hw.log.2.2).1
  have hsz : W.heap.size + 1 ≤ w7.heap.size := by rw [← hz]; exact hkk.size
  have hold := hw.disk.old
  have hnb : w7.heap[W.heap.size]? = some (.cells #[.int .i64 0, .int .i64 0] 23 (0, 0)) := (hk _ (by omega) (fun e => Nat.lt_irrefl _ (hold _ e))).trans (heap_alloc_new W _)
  have hlog7 := (hk blog (by omega) hw.log.1).trans hw1.log.2.2
  have hnS : ¬ S' W.heap.size := fun e => by
    rcases hs _ e with h1 | h1
    · exact Nat.lt_irrefl _ (hold _ h1)
    · omega
  have hset : ∀ b, b ≠ W.heap.size → (w7.setRow W.heap.size #[.int .i64 t, .int .i64 n1]).heap[b]? = w7.heap[b]? := fun b hb => setRow_other _ _ _ _ hb
  refine ⟨S', ⟨hd.keep (fun k hk1 => hset k (fun e => hnS (by rw [← e]; exact hk1))) (by simp [World.setRow]), fun k e => ?_, ⟨fun e => ?_, hw.log.2.1⟩, ⟨hnS, hw.low.size⟩, by omega, below_setRow (hw1.low.trans hlow) hw.low.size _, hp7.keep fun b hb1 h1 => hset b (fun e => ?_), ho7,
    (hset _ (by omega)).trans hlog7, setRow_heap _ _ _ _ _ _ hnb⟩, hnb, fun k e => (hs k e).imp id (fun h => by omega), fun b hb1 hb2 => (hset b (by omega)).trans ((hk b (by omega) hb2).trans (hb0.block b hb1))⟩
  · rcases hs k e with h1 | h1
    · exact hw.own k h1
    · exact Nat.le_trans hw1.low.size h1
  · rcases hs _ e with h1 | h1
    · exact hw.log.1 h1
    · omega
  · subst e
    rcases h1 with h1 | h1
    · have h2 := hw.low.size
      have h3 : W.heap.size < w0.heap.size := h1
      omega
    · exact hp7.ne hnb (by decide) h1
theorem mid_one {w0 W w7 : World} {S : Nat → Prop} {d d7 : Dk.Dk} {a blog : Nat} {t inc n1 : Int} {v : Value} {P : List (List Nat)} {Kd : Nat → Option Fr} (hw : Wrote w0 W S d a blog t inc P Kd) (hp : PutV W w0.heap.size (· < w0.heap.size) v P)
    (ho : ∀ g, v.ownBlock = some g → ¬ S g) (hg : Dk.Goes W w7 S a d7) :
    ∃ S', Mid w0 ((w7.alloc (.cells #[.int .i64 0, .int .i64 0] 23)).setRow w7.heap.size #[.int .i64 t, .int .i64 n1]) S' d7 a blog w7.heap.size t (t + (total P : Nat)) n1 v P := by
  obtain ⟨S', h, _⟩ := mid_oneK (n1 := n1) hw hp ho hg
  exact ⟨S', h⟩
theorem mid_two {w0 W w7 : World} {S : Nat → Prop} {d d7 : Dk.Dk} {a blog : Nat} {t inc n1 : Int} {v : Value} {P : List (List Nat)} {Kd : Nat → Option Fr} (hw : Wrote w0 W S d a blog t inc P Kd) (hp : PutV W w0.heap.size (· < w0.heap.size) v P)
    (ho : ∀ g, v.ownBlock = some g → ¬ S g) (hg : Dk.Goes (W.alloc (.cells #[.int .i64 0, .int .i64 0] 23)) w7 S a d7) :
    ∃ S', Mid w0 (w7.setRow W.heap.size #[.int .i64 t, .int .i64 n1]) S' d7 a blog W.heap.size t (t + (total P : Nat)) n1 v P ∧ w7.heap[W.heap.size]? = some (.cells #[.int .i64 0, .int .i64 0] 23 (0, 0)) := by
  obtain ⟨S', h, h1, _⟩ := mid_twoK (n1 := n1) hw hp ho hg
  exact ⟨S', h, h1⟩
/-- nothing was appended -/
theorem Mid.no {w0 W X : World} {S S' : Nat → Prop} {d : Dk.Dk} {a blog nb : Nat} {t inc : Int} {v : Value} {P : List (List Nat)} {Kd : Nat → Option Fr} (hw : Wrote w0 W S' d a blog t inc P Kd) (h : Mid w0 X S d a blog nb t (t + (total P : Nat)) (t + (total P : Nat)) v P) :
    Wrote w0 (X.setRow blog #[.int .i64 t, .int .i64 (t + (total P : Nat))]) S d a blog t inc P Kd ∧ PutV (X.setRow blog #[.int .i64 t, .int .i64 (t + (total P : Nat))]) w0.heap.size (· < w0.heap.size) v P := by
  have hset : ∀ b, b ≠ blog → (X.setRow blog #[.int .i64 t, .int .i64 (t + (total P : Nat))]).heap[b]? = X.heap[b]? := fun b hb => setRow_other _ _ _ _ hb
  refine ⟨⟨h.disk.keep (fun k hk1 => hset k (fun e => h.nlog.1 (by rw [← e]; exact hk1))) (by simp [World.setRow]), hw.up, h.own, ⟨h.nlog.1, h.nlog.2, setRow_heap _ _ _ _ _ _ h.log⟩, hw.recs, hw.fits, hw.cache, hw.lies, below_setRow h.low h.nlog.2 _⟩, h.put.keep fun b _ h1 => hset b fun e => ?_⟩
  subst e
  rcases h1 with h1 | h1
  · have h2 := h.nlog.2
    have h3 : b < w0.heap.size := h1
    omega
  · exact h.put.ne h.log (by decide) h1
/-- a record was appended -/
theorem Mid.yes {w0 W X X2 : World} {S S' : Nat → Prop} {d : Dk.Dk} {a blog nb g cap : Nat} {t inc : Int} {v u : Value} {P : List (List Nat)} {b : List Nat} {xs : List Value} {Kd : Nat → Option Fr} (hw : Wrote w0 W S' d a blog t inc P Kd) (hE : cutE b.length (t + (total P : Nat)) inc = 0) (hb : ∀ x ∈ b, x < 256) (hf : total P + cutN b.length ≤ 24)
    (h : Mid w0 X S (putsD d (cutAll b (t + (total P : Nat)) inc)) a blog nb t (t + (total P : Nat)) (t + (total P : Nat) + (cutN b.length : Nat)) v P)
    (hxs : xs.length = P.length ∧ ∀ i (h : i < P.length), ∃ u, xs[i]? = some u ∧ OneP X (· < w0.heap.size) u P[i])
    (hrow : X2.ownsRow w0.heap.size 24 1 (.slice (some ⟨g, 0, none⟩) (P.length + 1) cap) (P.length + 1) (xs ++ [u])) (hgr : (X.alloc (.cells #[u] 24)).grownBy X2 v.ownBlock) (hor : v.ownBlock = some g ∨ g = X.heap.size + 1) (hu : OneP X (· < w0.heap.size) u b) :
    X2.heap[blog]? = some (.cells #[.int .i64 t, .int .i64 (t + (total P : Nat))] 23 (0, 0)) ∧ X2.heap[nb]? = some (.cells #[.int .i64 t, .int .i64 (t + (total P : Nat) + (cutN b.length : Nat))] 23 (0, 0)) ∧
    Wrote w0 (X2.setRow blog #[.int .i64 t, .int .i64 (t + (total P : Nat) + (cutN b.length : Nat))]) S (putsD d (cutAll b (t + (total P : Nat)) inc)) a blog t inc (P ++ [b]) Kd ∧
    PutV (X2.setRow blog #[.int .i64 t, .int .i64 (t + (total P : Nat) + (cutN b.length : Nat))]) w0.heap.size (· < w0.heap.size) (.slice (some ⟨g, 0, none⟩) (P.length + 1) cap) (P ++ [b]) ∧
    ∀ k, (Value.slice (some ⟨g, 0, none⟩) (P.length + 1) cap).ownBlock = some k → ¬ S k := by
  have hsz : (X.alloc (.cells #[u] 24)).heap.size = X.heap.size + 1 := by simp
  have hge := h.put.ge
  have hlow0 : w0.heap.size ≤ X.heap.size := h.low.size
  have hkeep : ∀ k, k < X.heap.size → v.ownBlock ≠ some k → X2.heap[k]? = X.heap[k]? := fun k hk hne => (hgr.block k (by omega) (fun e => hne e.symm)).trans (Below.heap_alloc _ _ _ hk)
  have hsize : X.heap.size + 1 ≤ X2.heap.size := by have := hgr.size; omega
  have hll := (Array.getElem?_eq_some_iff.1 h.log).1
  have hln := (Array.getElem?_eq_some_iff.1 h.nxt).1
  have h1 := (hkeep blog hll (h.put.ne h.log (by decide))).trans h.log
  have h2 := (hkeep nb hln (h.put.ne h.nxt (by decide))).trans h.nxt
  have hlow : Below w0.heap.size w0 X2 := (h.low.alloc hlow0 (.cells #[u] 24)).grown hgr (by omega) (fun k e => hge k e)
  have hset : ∀ k, k ≠ blog → (X2.setRow blog #[.int .i64 t, .int .i64 (t + (total P : Nat) + (cutN b.length : Nat))]).heap[k]? = X2.heap[k]? := fun k hk => setRow_other _ _ _ _ hk
  have hd2 : Dk.Disk X2 S a (putsD d (cutAll b (t + (total P : Nat)) inc)) := h.disk.keep (fun k hk => hkeep k (h.disk.old k hk) (fun e => h.nput k e hk)) (by omega)
  have hput2 : PutV X2 w0.heap.size (· < w0.heap.size) (.slice (some ⟨g, 0, none⟩) (P.length + 1) cap) (P ++ [b]) :=
    h.put.more hxs hrow (fun k hk hk2 => hkeep k hk2 (fun e => by have := hge k e; have h3 : k < w0.heap.size := hk; omega)) hu
  have htot : total (P ++ [b]) = total P + cutN b.length := by rw [total_append]; simp [total]
  refine ⟨h1, h2, ⟨hd2.keep (fun k hk => hset k (fun e => h.nlog.1 (by rw [← e]; exact hk))) (by simp [World.setRow]), ?_, h.own, ⟨h.nlog.1, h.nlog.2, ?_⟩, hw.recs.append ⟨⟨hE, hb⟩, trivial⟩, by rw [htot]; exact hf, fun k => ?_, hw.lies.record hE hf, below_setRow hlow h.nlog.2 _⟩,
    hput2.keep (fun k hk h3 => hset k fun e => ?_), fun k hk => ?_⟩
  · rw [puts_down]; exact hw.up
  · have h3 := setRow_heap X2 blog _ #[.int .i64 t, .int .i64 (t + (total P : Nat) + (cutN b.length : Nat))] _ _ h1
    rw [htot, show t + ((total P + cutN b.length : Nat) : Int) = t + ((total P : Nat) : Int) + ((cutN b.length : Nat) : Int) by omega]
    exact h3
  · have h3 := puts_cache (cutAll b (t + (total P : Nat)) inc) d k
    rw [cutAll_length] at h3
    have h4 := hw.cache k
    omega
  · subst e
    rcases h3 with h3 | h3
    · have h4 := h.nlog.2
      have h5 : k < w0.heap.size := h3
      omega
    · exact hput2.ne h1 (by decide) h3
  · have hkg : g = k := by simpa [Value.ownBlock] using hk
    subst hkg
    rcases hor with h3 | h3
    · exact h.nput _ h3
    · intro e
      have := h.disk.old _ e
      omega

theorem app_call (hA : AppendSays) {w0 W : World} {S : Nat → Prop} {d : Dk.Dk} {a blog : Nat} {t inc : Int} {P : List (List Nat)} {Kd : Nat → Option Fr} (hw : Wrote w0 W S d a blog t inc P Kd) (hWd : Widths w0) {A : Option Addr} {b : List Nat} {c : Nat}
    (hy : ByP w0 (· < w0.heap.size) A b) (hl : b.length ≤ c ∧ c ≤ maxLen) (ht : 1 ≤ t ∧ t ≤ 1073741824) (hi : 0 ≤ inc ∧ inc ≤ 1048576) :
    Calls Tryd.prog 8 #[.pointer (some ⟨a, 0, none⟩), .agg #[.int .i64 t, .int .i64 (t + (total P : Nat))], .int .i64 inc, .slice A b.length c] W fun e w' =>
      e = .returned (.tuple #[.agg #[.int .i64 t, .int .i64 (if appE t (t + (total P : Nat)) inc b.length = 0 then t + (total P : Nat) + (cutN b.length : Nat) else t + (total P : Nat))], .int .i64 (appE t (t + (total P : Nat)) inc b.length)]) ∧
      Dk.Goes W w' S a (if appE t (t + (total P : Nat)) inc b.length = 0 then putsD d (cutAll b (t + (total P : Nat)) inc) else d) := by
  have hf := hw.fits
  refine hA W S a d t (t + (total P : Nat)) inc b A c hw.disk hw.up (fun n _ => by have := hw.cache n; omega) (widths_low hWd hw.low hWd.1) (fun e => by have := hw.own _ e; have := hWd.1; omega)
    ((hy.mono fun k hk _ => fun e => by have := hw.own k e; have h2 : k < w0.heap.size := hk; omega).keep fun k hk hk2 => hw.low.block k ?_) hl.1 hl.2 (by unfold I64; omega) (by unfold I64; omega) (by unfold I64; omega)
  exact hk2

/-- a disk and a log beside it -/
structure Bare (w0 w : World) (S : Nat → Prop) (d : Dk.Dk) (a blog : Nat) (t n1 : Int) : Prop where
  disk : Dk.Disk w S a d
  own : ∀ k, S k → w0.heap.size ≤ k
  nlog : ¬ S blog
  log : w.heap[blog]? = some (.cells #[.int .i64 t, .int .i64 n1] 23 (0, 0))
  low : Below w0.heap.size w0 w
theorem Wrote.bare {w0 w : World} {S : Nat → Prop} {d : Dk.Dk} {a blog : Nat} {t inc : Int} {P : List (List Nat)} {Kd : Nat → Option Fr} (h : Wrote w0 w S d a blog t inc P Kd) : Bare w0 w S d a blog t (t + (total P : Nat)) := ⟨h.disk, h.own, h.log.1, h.log.2.2, h.low⟩
theorem Bare.goes {w0 w w' : World} {S : Nat → Prop} {d d' : Dk.Dk} {a blog : Nat} {t n1 : Int} (h : Bare w0 w S d a blog t n1) (hg : Dk.Goes w w' S a d') :
    ∃ S', Bare w0 w' S' d' a blog t n1 ∧ (∀ k, S' k → S k ∨ w.heap.size ≤ k) ∧ ∀ b, b < w.heap.size → ¬ S b → w'.heap[b]? = w.heap[b]? := by
  have hk := goes_keep hg
  have hlow := goes_below hg h.low.size h.own
  obtain ⟨S', hd, _, hs⟩ := hg
  have hlt := (Array.getElem?_eq_some_iff.1 h.log).1
  refine ⟨S', ⟨hd, fun k e => ?_, fun e => ?_, (hk _ hlt h.nlog).trans h.log, h.low.trans hlow⟩, hs, hk⟩
  · rcases hs k e with h1 | h1
    · exact h.own k h1
    · exact Nat.le_trans h.low.size h1
  · rcases hs _ e with h1 | h1
    · exact h.nlog h1
    · omega
theorem Bare.below {w0 w w' : World} {S : Nat → Prop} {d : Dk.Dk} {a blog : Nat} {t n1 : Int} (h : Bare w0 w S d a blog t n1) (hb : Below w.heap.size w w') : Bare w0 w' S d a blog t n1 :=
  ⟨h.disk.below hb (Nat.le_refl _), h.own, h.nlog, (hb.block _ (Array.getElem?_eq_some_iff.1 h.log).1).trans h.log, h.low.trans (hb.mono h.low.size)⟩
theorem plan_low {w w' : World} {N : Nat} {A : Option Addr} {plan : List (Int × Int)} (h : Dk.PlanAt w N A plan) (hb : Below N w w') (hN : N ≤ w'.heap.size) : Dk.PlanAt w' w'.heap.size A plan := fun hn => by
  obtain ⟨b, off, e, hlt, hc⟩ := h hn
  exact ⟨b, off, e, by omega, fun j hj => ⟨(hb.cell hlt).trans (hc j hj).1, (hb.cell hlt).trans (hc j hj).2⟩⟩
theorem wr_crash {w0 W : World} {S : Nat → Prop} {d : Dk.Dk} {a blog : Nat} {t inc : Int} {P : List (List Nat)} {Kd : Nat → Option Fr} (hw : Wrote w0 W S d a blog t inc P Kd) {B : Option Addr} {cp : Nat} {plan : List (Int × Int)} (hp : Dk.PlanAt w0 w0.heap.size B plan) (hpl : plan.length ≤ 100)
    (hi : ∀ x ∈ plan, (-9223372036854775808 ≤ x.1 ∧ x.1 ≤ 9223372036854775807) ∧ -9223372036854775808 ≤ x.2 ∧ x.2 ≤ 9223372036854775807) :
    Calls Tryd.prog 15 #[.pointer (some ⟨a, 0, none⟩), .slice B plan.length cp] W fun e w' => e = .returned (.int .i64 0) ∧ Dk.Goes W w' S a (d.crash plan) :=
  Dk.crash_ok hw.disk hw.up (fun n _ => by have := hw.cache n; have := hw.fits; omega) (plan_low hp hw.low hw.low.size) (by omega) hi
end Go.Proofs.YtkajcgpkldofjaaDoor
end

section
/-
  JournalFinds, by contract, over what journal's calls are to answer.
-/
namespace Go.Proofs.YtkajcgpkldofjaaDoor
open Go.RowKit Fm
set_option maxRecDepth 100000

/-- behind a crash a beginning is found, and all that was flushed -/
theorem finds_end {t : Int} {q : Nat} {P : List (List Nat)} {D : Dk.Dk} (ht : 1 ≤ t) (hR : Recs t 3 P) (hq : q ≤ P.length) (hfit : total P ≤ 24)
    (hL : Lies D t (KF (framesOf t 3 (P.take q))) (KF (framesOf t 3 P)) (total P)) (plan : List (Int × Int)) :
    ∃ r, q ≤ r ∧ r ≤ P.length ∧ scanD { D.crash plan with down := false } t = (recsAt t (P.take r), t + (total (P.take r) : Nat)) := by
  obtain ⟨K', hK, hL'⟩ := hL.crash plan false
  have hP : P = P.take q ++ P.drop q := (List.take_append_drop q P).symm
  have hF : framesOf t 3 P = framesOf t 3 (P.take q) ++ framesOf (t + (total (P.take q) : Nat)) 3 (P.drop q) := by
    conv => lhs; rw [hP]
    exact framesOf_append _ _ _ _
  have hpre : ∀ (j : Nat) (f : Fr), (framesOf t 3 (P.take q))[j]? = some f → (framesOf t 3 P)[j]? = some f := fun j f hf => by
    rw [hF, List.getElem?_append_left (List.getElem?_eq_some_iff.1 hf).1]; exact hf
  have hrd : ∀ j : Nat, j < 24 → rdD { D.crash plan with down := false } (t + (j : Int)) = encF (K' j) := fun j hj => by
    rw [(hL' 0).rd j, Nat.mod_eq_of_lt hj]
  have hlen : ∀ (j : Nat) (f : Fr), (framesOf t 3 P)[j]? = some f → j < 24 := fun j f hf => by
    have h1 := (List.getElem?_eq_some_iff.1 hf).1
    rw [framesOf_length] at h1; omega
  obtain ⟨r, hr, hs, hm⟩ := scan_some (rd := rdD { D.crash plan with down := false }) (i := 3) P t 0 [] 24 hR (by omega) (fun j f hf => by
    rw [hrd j (hlen j f hf)]
    rcases hK j with h1 | h1
    · rw [h1]; unfold KF; rw [hf]; exact Or.inl rfl
    · rw [h1]; unfold KF
      cases h2 : (framesOf t 3 (P.take q))[j]? with
      | none => exact Or.inr enc_none
      | some g =>
        have h3 := hpre j g h2
        rw [hf] at h3
        cases h3
        exact Or.inl rfl) (fun hlt => by
    rw [hrd _ hlt]
    have h0 : (framesOf t 3 P)[total P]? = none := List.getElem?_eq_none (by rw [framesOf_length]; exact Nat.le_refl _)
    have h1 : (framesOf t 3 (P.take q))[total P]? = none := by
      cases h2 : (framesOf t 3 (P.take q))[total P]? with
      | none => rfl
      | some g => rw [hpre _ g h2] at h0; cases h0
    have h3 : K' (total P) = none := by rcases hK (total P) with h2 | h2 <;> rw [h2] <;> assumption
    rw [h3]; exact enc_none)
  refine ⟨r, hm q hq ?_ ?_, hr, ?_⟩
  · have := total_append (P.take q) (P.drop q)
    rw [← hP] at this; omega
  · intro j f hf
    have h1 := hpre j f hf
    rw [hrd j (hlen j f h1)]
    rcases hK j with h2 | h2
    · rw [h2]; unfold KF; rw [h1]; rfl
    · rw [h2]; unfold KF; rw [hf]; rfl
  · unfold scanD; rw [hs]; rfl

theorem suff7 {α β : Type} {Facts G : α → α → α → α → α → α → β → Prop} {Goal : Prop} (h : (∀ a b c d e f y, Facts a b c d e f y → G a b c d e f y) → Goal) (r : ∀ a b c d e f y, Facts a b c d e f y → G a b c d e f y) : Goal := h r
theorem suff {α β : Type} {Facts G : α → β → Prop} {Goal : Prop} (h : (∀ x y, Facts x y → G x y) → Goal) (r : ∀ x y, Facts x y → G x y) : Goal := h r
end Go.Proofs.YtkajcgpkldofjaaDoor
end

section
/-
  JournalTails as plain data: a scan from each sequence of a log.
-/
namespace Go.Proofs.YtkajcgpkldofjaaDoor
open Go.RowKit Fm

theorem Recs.drop {s i : Int} : ∀ {l : List (List Nat)} (k : Nat), Recs s i l → Recs (s + (total (l.take k) : Nat)) i (l.drop k)
  | l, 0, h => by simpa [total] using h
  | [], k + 1, _ => by simp [Recs]
  | b :: r, k + 1, h => by
    have h1 := Recs.drop k h.2
    rw [List.take_succ_cons, List.drop_succ_cons, total, show s + ((cutN b.length + total (r.take k) : Nat) : Int) = s + ((cutN b.length : Nat) : Int) + ((total (r.take k) : Nat) : Int) by omega]
    exact h1
theorem Recs.pos {s i : Int} {b : List Nat} {r : List (List Nat)} (h : Recs s i (b :: r)) : 1 ≤ cutN b.length ∧ cutN b.length ≤ 2 := by
  have h1 := cut_ways h.1.1; omega
/-- each sector of a log begins a record or is a record's second part -/
theorem begins {i : Int} : ∀ (l : List (List Nat)) (s : Int) (j : Nat), Recs s i l → j < total l → (∃ k, k < l.length ∧ j = total (l.take k)) ∨ ∃ f, (framesOf s i l)[j]? = some f ∧ f.part = 1
  | [], _, _, _, h => by simp [total] at h
  | b :: r, s, j, h, hj => by
    have hp := h.pos
    by_cases h0 : j = 0
    · exact Or.inl ⟨0, by simp, by simp [total, h0]⟩
    · by_cases h1 : j < cutN b.length
      · obtain rfl : j = 1 := by omega
        exact Or.inr ⟨_, frames_get0 h1, rfl⟩
      · obtain ⟨j', rfl⟩ : ∃ j', j = cutN b.length + j' := ⟨j - cutN b.length, by omega⟩
        rcases begins r (s + (cutN b.length : Nat)) j' h.2 (by unfold total at hj; omega) with ⟨k, hk, e⟩ | ⟨f, hf, e⟩
        · exact Or.inl ⟨k + 1, by simpa using hk, by rw [List.take_succ_cons, total, e]⟩
        · exact Or.inr ⟨f, by rw [frames_get1]; exact hf, e⟩
theorem frame_at {i : Int} : ∀ (l : List (List Nat)) (s : Int) (j : Nat) (f : Fr), Recs s i l → (framesOf s i l)[j]? = some f → f.seq = s + (j : Int) ∧ readOK (byB f) = true ∧ readF (byB f) = f
  | [], _, _, _, _, h => by simp [framesOf] at h
  | b :: r, s, j, f, h, hf => by
    by_cases h1 : j < cutN b.length
    · rw [frames_get0 h1] at hf
      obtain rfl := Option.some.inj hf
      obtain ⟨h2, h3⟩ := cut_read h.1.2 h.1.1 h1
      exact ⟨rfl, h2, h3⟩
    · obtain ⟨j', rfl⟩ : ∃ j', j = cutN b.length + j' := ⟨j - cutN b.length, by omega⟩
      rw [frames_get1] at hf
      obtain ⟨h2, h3⟩ := frame_at r _ j' f h.2 hf
      exact ⟨by rw [h2]; omega, h3⟩
theorem total_take_lt {s i : Int} {l : List (List Nat)} (h : Recs s i l) {k : Nat} (hk : k < l.length) : total (l.take k) < total l ∧ total (l.take k) + total (l.drop k) = total l ∧ 1 ≤ total (l.drop k) := by
  have h1 := total_append (l.take k) (l.drop k)
  rw [List.take_append_drop] at h1
  have h2 := h.drop k
  cases hd : l.drop k with
  | nil => rw [List.drop_eq_nil_iff] at hd; omega
  | cons b r =>
    rw [hd] at h2 h1
    have := h2.pos
    unfold total at *
    omega
section
variable {D : Dk.Dk} {t : Int} {Kd : Nat → Option Fr} {P : List (List Nat)}
/-- from where a record begins: that one and those behind it -/
theorem scan_from {k : Nat} (hR : Recs t 1 P) (hL : Lies D t Kd (KF (framesOf t 1 P)) (total P)) (hf : total P ≤ 24) (hk : k < P.length) :
    scanD D (t + (total (P.take k) : Nat)) = (recsAt (t + (total (P.take k) : Nat)) (P.drop k), t + (total P : Nat)) := by
  obtain ⟨h1, h2, h3⟩ := total_take_lt hR hk
  have hF : framesOf t 1 P = framesOf t 1 (P.take k) ++ framesOf (t + (total (P.take k) : Nat)) 1 (P.drop k) := by
    conv => lhs; rw [← List.take_append_drop k P]
    exact framesOf_append _ _ _ _
  have hs := scan_recs (rd := rdD D) (i := 1) (P.drop k) (t + (total (P.take k) : Nat)) 0 [] (24 - total (P.drop k)) (hR.drop k) (by omega) (fun j f hj => by
    have hl := (List.getElem?_eq_some_iff.1 hj).1
    rw [framesOf_length] at hl
    rw [show t + ((total (P.take k) : Nat) : Int) + (j : Int) = t + ((total (P.take k) + j : Nat) : Int) by omega, hL.rd, Nat.mod_eq_of_lt (by omega)]
    have h4 : (framesOf t 1 P)[total (P.take k) + j]? = some f := by
      rw [hF, List.getElem?_append_right (by rw [framesOf_length]; omega), framesOf_length, Nat.add_sub_cancel_left]; exact hj
    unfold KF; rw [h4]; rfl)
  unfold scanD
  rw [show 24 - total (P.drop k) + total (P.drop k) = 24 by omega] at hs
  rw [hs, if_neg (by intro e; rw [List.drop_eq_nil_iff] at e; omega), List.nil_append, show t + ((total (P.take k) : Nat) : Int) + ((total (P.drop k) : Nat) : Int) = t + ((total P : Nat) : Int) by omega]
  cases hz : 24 - total (P.drop k) with
  | zero => rfl
  | succ z =>
    refine scan_bad (Or.inr ?_)
    rw [hL.rd]
    by_cases hlt : total P < 24
    · rw [Nat.mod_eq_of_lt hlt]
      have h4 : KF (framesOf t 1 P) (total P) = none := List.getElem?_eq_none (by rw [framesOf_length]; exact Nat.le_refl _)
      rw [h4]
      unfold goodB
      rw [enc_none]; rfl
    · have he : total P = 24 := by omega
      rw [he]
      have h4 : ∃ f, (framesOf t 1 P)[0]? = some f := ⟨_, List.getElem?_eq_getElem (by rw [framesOf_length]; omega)⟩
      obtain ⟨f, h5⟩ := h4
      obtain ⟨h6, h7, h8⟩ := frame_at P t 0 f hR h5
      show goodB (encF ((framesOf t 1 P)[0]?)) _ _ _ = false
      rw [h5]
      unfold goodB encF
      rw [h7, h8, h6]
      simp
      intro h; omega
/-- from another sequence: nothing -/
theorem scan_other {j : Nat} (hR : Recs t 1 P) (hL : Lies D t Kd (KF (framesOf t 1 P)) (total P)) (hf : total P ≤ 24) (hj : j < total P) (hn : ∀ k, k < P.length → j ≠ total (P.take k)) : scanD D (t + (j : Int)) = ([], t + (j : Int)) := by
  rcases begins P t j hR hj with ⟨k, hk, e⟩ | ⟨f, h1, h2⟩
  · exact absurd e (hn k hk)
  · obtain ⟨h6, h7, h8⟩ := frame_at P t j f hR h1
    refine scan_bad (Or.inr ?_)
    rw [hL.rd, Nat.mod_eq_of_lt (by omega)]
    show goodB (encF ((framesOf t 1 P)[j]?)) _ _ _ = false
    rw [h1]
    unfold goodB encF followsB
    rw [h7, h8, h6, h2]
    simp
theorem take_inj (hR : Recs t 1 P) {m n : Nat} (hm : m < P.length) (hn : n < P.length) (h : total (P.take m) = total (P.take n)) : m = n := by
  have mono : ∀ a b, a < b → b < P.length → total (P.take a) < total (P.take b) := fun a b hab hb => by
    have h1 : (P.take b).take a = P.take a := by rw [List.take_take, Nat.min_eq_left (by omega)]
    have h2 := total_append ((P.take b).take a) ((P.take b).drop a)
    rw [List.take_append_drop, h1] at h2
    obtain ⟨_, _, h3⟩ := total_take_lt hR (k := a) (by omega)
    have h4 : 1 ≤ total ((P.take b).drop a) := by
      cases hd : (P.take b).drop a with
      | nil =>
        rw [List.drop_eq_nil_iff, List.length_take] at hd
        omega
      | cons x r =>
        have h5 := hR.drop a
        have h6 : P.drop a = x :: (r ++ P.drop b) := by
          have h7 : P.drop a = (P.take b ++ P.drop b).drop a := by rw [List.take_append_drop]
          rw [h7, List.drop_append_of_le_length (by rw [List.length_take]; omega), hd]
          rfl
        rw [h6] at h5
        have := h5.pos
        unfold total
        omega
    omega
  rcases Nat.lt_trichotomy m n with h1 | h1 | h1
  · have := mono m n h1 hn; omega
  · exact h1
  · have := mono n m h1 hm; omega
/-- what a scan from each sequence of the log finds -/
theorem scan_each {j : Nat} (hR : Recs t 1 P) (hL : Lies D t Kd (KF (framesOf t 1 P)) (total P)) (hf : total P ≤ 24) (hj : j < total P) :
    ∃ (KK : Nat) (NX : Int) (L : List (Int × List Nat)), KK ≤ P.length ∧ scanD D (t + (j : Int)) = (L, NX) ∧ L.map (·.2) = P.drop KK ∧ L.length = P.length - KK ∧ (∀ m, m < P.length → (total (P.take m) = j ↔ m = KK)) ∧
      (KK < P.length → NX = t + (total P : Nat)) ∧ (KK = P.length → NX = t + (j : Int)) := by
  by_cases h : ∃ k, k < P.length ∧ j = total (P.take k)
  · obtain ⟨k, hk, rfl⟩ := h
    refine ⟨k, _, _, by omega, scan_from hR hL hf hk, recsAt_map _ _, by rw [recsAt_length, List.length_drop], fun m hm => ⟨fun e => take_inj hR hm hk e, fun e => by rw [e]⟩, fun _ => rfl, fun e => by omega⟩
  · have hn : ∀ k, k < P.length → j ≠ total (P.take k) := fun k hk e => h ⟨k, hk, e⟩
    refine ⟨P.length, _, _, Nat.le_refl _, scan_other hR hL hf hj hn, by simp, by simp, fun m hm => ⟨fun e => absurd e.symm (hn m hm), fun e => by omega⟩, fun e => by omega, fun _ => rfl⟩
end
end Go.Proofs.YtkajcgpkldofjaaDoor
end

section
/-
  A row of sequences of the call's own; the rest of a row of records.
-/
namespace Go.Proofs.YtkajcgpkldofjaaDoor
open Go.RowKit Fm

/-- v is a row of numbers of the call's own. -/
def IntsV (w : World) (N : Nat) (v : Value) (zs : List Int) : Prop := w.ownsRow N 3 1 v zs.length (zs.map (Value.int .i64))
section
variable {w w' : World} {N : Nat} {v : Value} {zs : List Int}
theorem IntsV.ge (h : IntsV w N v zs) : ∀ k, v.ownBlock = some k → N ≤ k := own_ge' h
theorem IntsV.keep (h : IntsV w N v zs) (hk : ∀ b, b < w.heap.size → v.ownBlock = some b → w'.heap[b]? = w.heap[b]?) : IntsV w' N v zs := own_kept h hk
theorem IntsV.ne (h : IntsV w N v zs) {b : Nat} {cs : Array Value} {t : TypeId} {fr : Nat × Nat} (hb : w.heap[b]? = some (.cells cs t fr)) (ht : t ≠ 3) : v.ownBlock ≠ some b := by
  obtain ⟨_, h1⟩ := h
  rcases h1 with ⟨rfl, _⟩ | ⟨g, cap, cur, rfl, _, hh, _⟩
  · simp [Value.ownBlock]
  · intro e
    have : g = b := by simpa [Value.ownBlock] using e
    subst this
    rw [hb] at hh
    cases hh
    exact ht rfl
theorem IntsV.lt (h : IntsV w N v zs) : ∀ k, v.ownBlock = some k → k < w.heap.size := by
  obtain ⟨_, h1⟩ := h
  intro k hk
  rcases h1 with ⟨rfl, _⟩ | ⟨g, cap, cur, rfl, _, hh, _⟩
  · simp [Value.ownBlock] at hk
  · have : g = k := by simpa [Value.ownBlock] using hk
    subst this
    exact (Array.getElem?_eq_some_iff.1 hh).1
theorem IntsV.slice (h : IntsV w N v zs) : ∃ A c, v = .slice A zs.length c ∧ (0 < zs.length → ∃ b, A = some ⟨b, 0, none⟩ ∧ b < w.heap.size ∧ ∀ i (hi : i < zs.length), w.cell? ⟨b, i, none⟩ = some (.int .i64 zs[i])) := by
  obtain ⟨_, h1⟩ := h
  rcases h1 with ⟨rfl, h0⟩ | ⟨g, cap, cur, rfl, _, hh, hn, hc, hsz, ht⟩
  · obtain rfl := List.eq_nil_of_length_eq_zero h0
    exact ⟨none, 0, rfl, fun h => absurd h (by simp)⟩
  · refine ⟨some ⟨g, 0, none⟩, cap, rfl, fun _ => ⟨g, rfl, (Array.getElem?_eq_some_iff.1 hh).1, fun i hi => ?_⟩⟩
    rw [cell_of_row w g i cur _ _ hh]
    have h4 := congrArg (·[i]?) ht
    simp only [List.getElem?_take, Nat.mul_one, hi, if_true, List.getElem?_map, List.getElem?_eq_getElem hi, Option.map_some] at h4
    rw [← h4]; simp
theorem IntsV.goes {S S' : Nat → Prop} (h : IntsV w N v zs) (hown : ∀ g, v.ownBlock = some g → ¬ S g) (hs : ∀ k, S' k → S k ∨ w.heap.size ≤ k) (hk : ∀ b, b < w.heap.size → ¬ S b → w'.heap[b]? = w.heap[b]?) :
    IntsV w' N v zs ∧ ∀ g, v.ownBlock = some g → ¬ S' g :=
  ⟨h.keep fun b hb e => hk b hb (hown b e), fun g hg e => by
    rcases hs g e with h1 | h1
    · exact hown g hg h1
    · have := h.lt g hg
      omega⟩
end
/-- a row of the call's own grows: what stands beside it stays -/
theorem Mid.grown {w0 X X1 : World} {S : Nat → Prop} {d : Dk.Dk} {a blog nb : Nat} {t n0 n1 : Int} {v vb : Value} {P : List (List Nat)} {zs : List Int} {o : Obj} (h : Mid w0 X S d a blog nb t n0 n1 v P) (hv : IntsV X w0.heap.size vb zs) (hb : ∀ g, vb.ownBlock = some g → ¬ S g)
    (hgr : (X.alloc o).grownBy X1 vb.ownBlock) : Mid w0 X1 S d a blog nb t n0 n1 v P := by
  have hsz : (X.alloc o).heap.size = X.heap.size + 1 := by simp
  have hkeep : ∀ k, k < X.heap.size → vb.ownBlock ≠ some k → X1.heap[k]? = X.heap[k]? := fun k hk hne => (hgr.block k (by omega) (fun e => hne e.symm)).trans (Below.heap_alloc _ _ _ hk)
  have hge := hv.ge
  have hlow0 : w0.heap.size ≤ X.heap.size := h.low.size
  have hsize : X.heap.size + 1 ≤ X1.heap.size := by have := hgr.size; omega
  refine ⟨h.disk.keep (fun k hk => hkeep k (h.disk.old k hk) (fun e => hb k e hk)) (by omega), h.own, h.nlog, h.nnb, h.ne, (h.low.alloc hlow0 o).grown hgr (by omega) (fun k e => hge k e),
    h.put.keep fun k hk h1 => hkeep k hk fun e => ?_, h.nput, (hkeep _ (Array.getElem?_eq_some_iff.1 h.log).1 (hv.ne h.log (by decide))).trans h.log, (hkeep _ (Array.getElem?_eq_some_iff.1 h.nxt).1 (hv.ne h.nxt (by decide))).trans h.nxt⟩
  rcases h1 with h1 | h1
  · have h2 := hge k e
    have h3 : k < w0.heap.size := h1
    omega
  · obtain ⟨xs, ⟨_, h2⟩, _⟩ := h.put
    rcases h2 with ⟨rfl, _⟩ | ⟨g, cap, cur, rfl, _, hh, _⟩
    · simp [Value.ownBlock] at h1
    · have : g = k := by simpa [Value.ownBlock] using h1
      subst this
      exact hv.ne hh (by decide) e
/-- .. and the row has one number more -/
theorem IntsV.more {w0 X X1 : World} {S : Nat → Prop} {d : Dk.Dk} {a blog nb : Nat} {t n0 n1 z : Int} {v vb : Value} {P : List (List Nat)} {zs : List Int} {g cap : Nat} (h : Mid w0 X S d a blog nb t n0 n1 v P) (hb : ∀ g, vb.ownBlock = some g → ¬ S g)
    (hrow : X1.ownsRow w0.heap.size 3 1 (.slice (some ⟨g, 0, none⟩) (zs.length + 1) cap) (zs.length + 1) (zs.map (Value.int .i64) ++ [.int .i64 z])) (hor : vb.ownBlock = some g ∨ g = X.heap.size + 1) :
    IntsV X1 w0.heap.size (.slice (some ⟨g, 0, none⟩) (zs.length + 1) cap) (zs ++ [z]) ∧ ∀ k, (Value.slice (some ⟨g, 0, none⟩) (zs.length + 1) cap).ownBlock = some k → ¬ S k := by
  refine ⟨by unfold IntsV; simpa using hrow, fun k hk => ?_⟩
  have hkg : g = k := by simpa [Value.ownBlock] using hk
  subst hkg
  rcases hor with h1 | h1
  · exact hb _ h1
  · intro e
    have := h.disk.old _ e
    omega
/-- .. through an append to the other row, and the log's store -/
theorem ints_kept {w0 X X2 : World} {S : Nat → Prop} {d : Dk.Dk} {a blog nb : Nat} {t n0 n1 : Int} {v vb : Value} {P : List (List Nat)} {zs : List Int} {o : Obj} {row : Array Value} (h : Mid w0 X S d a blog nb t n0 n1 v P) (hv : IntsV X w0.heap.size vb zs)
    (hgr : (X.alloc o).grownBy X2 v.ownBlock) (hl : X2.heap[blog]? = some (.cells row 23 (0, 0))) (cs : Array Value) : IntsV (X2.setRow blog cs) w0.heap.size vb zs := by
  have hsz : (X.alloc o).heap.size = X.heap.size + 1 := by simp
  have h2 : IntsV X2 w0.heap.size vb zs := hv.keep fun b hb e => (hgr.block b (by omega) (fun e2 => by
    obtain ⟨xs, ⟨_, h3⟩, _⟩ := h.put
    rcases h3 with ⟨rfl, _⟩ | ⟨g, cap, cur, rfl, _, hh, _⟩
    · simp [Value.ownBlock] at e2
    · have : b = g := by simpa [Value.ownBlock] using e2
      subst this
      exact hv.ne hh (by decide) e)).trans (Below.heap_alloc _ _ _ hb)
  exact h2.keep fun b hb e => setRow_other _ _ _ _ fun e2 => h2.ne hl (by decide) (by rw [← e2]; exact e)
/-- where the records begin -/
def begs (t : Int) (P : List (List Nat)) : List Int := (recsAt t P).map (·.1)
theorem begs_length (t : Int) (P : List (List Nat)) : (begs t P).length = P.length := by simp [begs, recsAt_length]
theorem begs_append (t : Int) (P : List (List Nat)) (b : List Nat) : begs t (P ++ [b]) = begs t P ++ [t + (total P : Nat)] := by simp [begs, recsAt_append, recsAt]
theorem begs_get : ∀ (P : List (List Nat)) (t : Int) (i : Nat) (hi : i < (begs t P).length), (begs t P)[i] = t + (total (P.take i) : Nat)
  | [], _, _, hi => by simp [begs, recsAt] at hi
  | b :: r, t, 0, _ => by simp [begs, recsAt, total]
  | b :: r, t, i + 1, hi => by
    have h1 := begs_get r (t + (cutN b.length : Nat)) i (by simpa [begs, recsAt] using hi)
    have h2 : (begs t (b :: r))[i + 1] = (begs (t + (cutN b.length : Nat)) r)[i]'(by simpa [begs, recsAt] using hi) := by simp [begs, recsAt]
    rw [h2, h1, List.take_succ_cons, total]
    omega
theorem RowsP.drop {w : World} {P : Nat → Prop} {A : Option Addr} {rows : List (List Nat)} {c : Nat} (h : RowsP w P A rows) (k : Nat) (hc : rows.length ≤ c) : RowsP w P (if c = k then A else A.map (·.add k)) (rows.drop k) :=
  ⟨fun r hr => h.1 r (List.mem_of_mem_drop hr), fun hn => by
    rw [List.length_drop] at hn
    obtain ⟨b, off, e, hb, hcell⟩ := h.2 (by omega)
    refine ⟨b, off + k, ?_, hb, fun i hi => ?_⟩
    · rw [if_neg (by omega), e, Option.map_some, add_flat]
    · rw [List.length_drop] at hi
      obtain ⟨v, h1, h2⟩ := hcell (k + i) (by omega)
      refine ⟨v, by rw [Nat.add_assoc]; exact h1, ?_⟩
      rw [List.getElem_drop]
      exact h2⟩
end Go.Proofs.YtkajcgpkldofjaaDoor
end

section
/-
  JournalTails, by contract, over what journal's calls are to answer: the walk.
-/
namespace Go.Proofs.YtkajcgpkldofjaaDoor
open Go.RowKit Fm
set_option maxRecDepth 100000

theorem Tryd.infoL : (Tryd.prog.info? 23).map (·.size) = some 2 := by kernel_rfl
theorem Tryd.infoLs (a b : Int) : (Tryd.prog.info? 23).map (·.size) = some (#[.int .i64 a, .int .i64 b] : Array Value).size := Tryd.infoL
theorem one2 (a b : Int) : (#[.int .i64 a, .int .i64 b] : Array Value).all (·.oneCell') = true := by simp [Value.oneCell']
theorem size2 (a b c d : Int) : (#[.int .i64 a, .int .i64 b] : Array Value).size = (#[.int .i64 c, .int .i64 d] : Array Value).size := rfl
theorem Tryd.infoR : (Tryd.prog.info? 24).map (fun i => (i.zero, i.size, i.bytes)) = some (some (.slice none 0 0), 1, 24) := by kernel_rfl
theorem Tryd.infoI : (Tryd.prog.info? 3).map (fun i => (i.zero, i.size, i.bytes)) = some (some (.int .i64 0), 1, 8) := by kernel_rfl

/-- between two rounds -/
def TInv (w0 : World) (a blog : Nat) (t : Int) (k : Nat) (vb v : Value) (wr : World) : Prop :=
  ∃ (S : Nat → Prop) (d : Dk.Dk) (P : List (List Nat)), Wrote w0 wr S d a blog t 1 P (KF (framesOf t 1 [])) ∧ PutV wr w0.heap.size (· < w0.heap.size) v P ∧ (∀ g, v.ownBlock = some g → ¬ S g) ∧
    IntsV wr w0.heap.size vb (begs t P) ∧ (∀ g, vb.ownBlock = some g → ¬ S g) ∧ P.length ≤ k

set_option maxHeartbeats 4000000 in
theorem tails_small (hA : AppendSays) (hS : ScanSays) (hWk : WakesSays) (t : Int) (A : Option Addr) (c : Nat) (rows : List (List Nat)) (w : World)
    (hA1 : RowsP w (· < w.heap.size) A rows) (hl : rows.length ≤ 20) (ht : 1 ≤ t ∧ t ≤ 1073741824) (hWd : Widths w) :
    Calls Tryd.prog 6 #[.int .i64 t, .slice A rows.length c] w fun e w' => e = .returned (.bool true) ∧ Below w.heap.size w w' := by
  have hq1 : ¬ (20 : Int) < (rows.length : Int) := by omega
  have hq3 : ¬ t < 1 := by omega
  have hq4 : ¬ 1073741824 < t := by omega
  have HA := Lib.hid hA1
  have HWd := Lib.hid hWd
  have HL := Lib.hid hl
  obtain ⟨n, hn⟩ : ∃ n, n = rows.length := ⟨_, rfl⟩
  have HN := Lib.hid hn
  rw [← hn] at hq1 ⊢
  clear hA1 hWd hl hn
  go_enter Tryd.func6, Tryd.ntmps6
  go_wp2_with fail
  refine (Dk.new_disk _).mono ?_
  rintro e w1 ⟨rfl, hd1, hb1, hz1⟩
  have HW0 := Lib.hid (show Wrote w (w1.alloc (.cells #[.int .i64 t, .int .i64 t] 23)) (fun k => k = w.heap.size) Dk.Dk.fresh w.heap.size w1.heap.size t 1 [] (KF (framesOf t 1 [])) from
    ⟨hd1.below ((Below.refl w1.heap.size w1).alloc (Nat.le_refl _) _) (Nat.le_refl _), rfl, fun k e => by cases e; exact Nat.le_refl _, ⟨by omega, hb1.size, by
      have h := heap_alloc_new w1 (.cells #[.int .i64 t, .int .i64 t] 23)
      rw [show t + ((total [] : Nat) : Int) = t by simp [total]]
      exact h⟩, trivial, by simp [total], fun n => by simp [Dk.Dk.fresh], (fresh_lies t).congr (fun i _ => by simp [KF, framesOf]) (fun i _ => by simp [KF, framesOf]), hb1.alloc hb1.size _⟩)
  clear hd1 hb1 hz1
  go_wp2_with fail
  go_loopw [7, 8, 9] (fun vb v i wr => ∃ k : Nat, k ≤ n ∧ i = .int .i64 (k : Int) ∧ TInv w w.heap.size w1.heap.size t k vb v wr) (fun _ _ i _ => n - (intOf i).toNat)
  case atStart => exact ⟨0, Nat.zero_le _, rfl, _, _, [], HW0.out, PutV.nil_ _ _ _, fun g e => by simp [Value.ownBlock] at e, World.ownsRow_nil _ _ _ _, fun g e => by simp [Value.ownBlock] at e, Nat.le_refl _⟩
  case round =>
    obtain ⟨k, hk, rfl, S, d, P, hwr, hput, hown, hbeg, hownb, hPk⟩ := hrel
    have HWr := Lib.hid hwr
    have HPu := Lib.hid hput
    have HOw := Lib.hid hown
    have HBe := Lib.hid hbeg
    have HOb := Lib.hid hownb
    have HPk := Lib.hid hPk
    obtain ⟨B0, cB, hvB, _, _, _⟩ := hput.rows_
    obtain ⟨I0, cI, hvI, _⟩ := hbeg.slice
    clear hwr hput hown hPk hbeg hownb
    by_cases hlt : k < n
    · subst hvB
      subst hvI
      have hka : k < rows.length := by have := HN.out; omega
      obtain ⟨b2, off2, A2, c2, hAe, hb2lt, cA, hyA, hlA, hmA, hnA⟩ := HA.out.at_ hka
      have HCA := Lib.hid cA
      have HYA := Lib.hid hyA
      have HLA := Lib.hid (show rows[k].length ≤ c2 ∧ c2 ≤ maxLen from ⟨hlA, hmA⟩)
      have HNA := Lib.hid hnA
      have hkn : (k : Int) < (n : Int) := by omega
      clear cA hyA hlA hmA hnA
      subst hAe
      go_wp2_with fail
      have HSA := Lib.hid (show ∀ (X : World) (S : Nat → Prop) (d : Dk.Dk), Wrote w X S d w.heap.size w1.heap.size t 1 P (KF (framesOf t 1 ([]))) → X.cell? ⟨w1.heap.size, 0, none⟩ = some (.int .i64 t) ∧ X.cell? ⟨w1.heap.size, 1, none⟩ = some (.int .i64 (t + (total P : Nat))) ∧ X.cell? ⟨b2, off2 + k, none⟩ = some (.slice A2 rows[k].length c2) from fun X S d h =>
        ⟨cell_of_row X _ 0 _ _ _ h.log.2.2, cell_of_row X _ 1 _ _ _ h.log.2.2, (h.low.cell (p := ⟨b2, off2 + k, none⟩) hb2lt).trans HCA.out⟩)
      have HWd0 := Lib.hid (HWr.out.below (Below.refl _ _).drew)
      have HPd0 := Lib.hid (HPu.out.keep (w' := wr.drew) fun _ _ _ => rfl)
      have HWd1 := Lib.hid (HWd0.out.below ((Below.refl _ _).alloc (Nat.le_refl _) (.cells #[.int .i64 0, .int .i64 0] 23)))
      have hc1 := app_call hA HWd0.out HWd.out HYA.out HLA.out ht (by omega)
      have hc2 := app_call hA HWd1.out HWd.out HYA.out HLA.out ht (by omega)
      obtain ⟨E, hE⟩ : ∃ E, E = appE t (t + (total P : Nat)) 1 rows[k].length := ⟨_, rfl⟩
      rw [← hE] at hc1 hc2
      obtain ⟨N1, hN1⟩ : ∃ N1 : Int, N1 = if E = 0 then t + (total P : Nat) + (cutN rows[k].length : Nat) else t + (total P : Nat) := ⟨_, rfl⟩
      obtain ⟨D1, hD1⟩ : ∃ D1 : Dk.Dk, D1 = if E = 0 then putsD d (cutAll rows[k] (t + (total P : Nat)) 1) else d := ⟨_, rfl⟩
      rw [← hN1, ← hD1] at hc1 hc2
      have HE := Lib.hid hE
      have HN1 := Lib.hid hN1
      have HD1 := Lib.hid hD1
      have HC1 := Lib.hid hc1
      have HC2 := Lib.hid hc2
      clear hc1 hc2 hE hN1 hD1
      refine wp_region_held_drew (S := fun X => X.cell? ⟨w1.heap.size, 0, none⟩ = some (.int .i64 t) ∧ X.cell? ⟨w1.heap.size, 1, none⟩ = some (.int .i64 (t + (total P : Nat))) ∧ X.cell? ⟨b2, off2 + k, none⟩ = some (.slice A2 rows[k].length c2)) (by kernel_rfl) (HSA.out _ _ _ HWd0.out) (fun hHeld => ?_)
      refine wpAnyH_take (i := 0) (v := ?_) rfl (by kernel_rfl) (by kernel_rfl) (by kernel_rfl) (fun _ _ _ h => h) (Or.inl ⟨by rfl, ?_⟩) (by assumption) ?_
      rotate_left
      · simp only [List.getElem_toArray, List.getElem_cons_zero, List.getElem_cons_succ]; intro W hSw; (try dsimp only at hSw); go_simp; all_goals with_reducible rfl
      simp only [Act.put, List.getElem_toArray, List.getElem_cons_zero, List.getElem_cons_succ, List.setIfInBounds_toArray, List.set_cons_zero, List.set_cons_succ]
      refine wpAnyH_take (i := 1) (v := ?_) rfl (by kernel_rfl) (by kernel_rfl) (by kernel_rfl) (fun _ _ _ h => h) (Or.inl ⟨by rfl, ?_⟩) (by assumption) ?_
      rotate_left
      · simp only [List.getElem_toArray, List.getElem_cons_zero, List.getElem_cons_succ]; intro W hSw; (try dsimp only at hSw); go_simp; all_goals with_reducible rfl
      simp only [Act.put, List.getElem_toArray, List.getElem_cons_zero, List.getElem_cons_succ, List.setIfInBounds_toArray, List.set_cons_zero, List.set_cons_succ]
      refine wpAnyH_take (i := 2) (v := ?_) rfl (by kernel_rfl) (by kernel_rfl) (by kernel_rfl) (fun _ _ _ h => h) (Or.inl ⟨by rfl, ?_⟩) (by assumption) ?_
      rotate_left
      · simp only [List.getElem_toArray, List.getElem_cons_zero, List.getElem_cons_succ]; intro W hSw; (try dsimp only at hSw); go_simp; all_goals with_reducible rfl
      simp only [Act.put, List.getElem_toArray, List.getElem_cons_zero, List.getElem_cons_succ, List.setIfInBounds_toArray, List.set_cons_zero, List.set_cons_succ]
      refine wpAnyH_take (i := 3) (v := ?_) rfl (by kernel_rfl) (by kernel_rfl) (by kernel_rfl) (fun _ _ _ h => h) (Or.inl ⟨by rfl, ?_⟩) (by assumption) ?_
      rotate_left
      · simp only [List.getElem_toArray, List.getElem_cons_zero, List.getElem_cons_succ]; intro W hSw; (try dsimp only at hSw); go_simp; all_goals with_reducible rfl
      simp only [Act.put, List.getElem_toArray, List.getElem_cons_zero, List.getElem_cons_succ, List.setIfInBounds_toArray, List.set_cons_zero, List.set_cons_succ]
      refine wpAnyH_take (i := 4) (v := ?_) rfl (by kernel_rfl) (by kernel_rfl) (by kernel_rfl) (fun _ _ _ h => h) (Or.inl ⟨by rfl, ?_⟩) (by assumption) ?_
      rotate_left
      · simp only [List.getElem_toArray, List.getElem_cons_zero, List.getElem_cons_succ]; intro W hSw; (try dsimp only at hSw); go_simp; all_goals with_reducible rfl
      simp only [Act.put, List.getElem_toArray, List.getElem_cons_zero, List.getElem_cons_succ, List.setIfInBounds_toArray, List.set_cons_zero, List.set_cons_succ]
      refine wpAnyH_take (i := 5) (v := ?_) rfl (by kernel_rfl) (by kernel_rfl) (by kernel_rfl) (fun _ _ _ h => h) (Or.inl ⟨by rfl, ?_⟩) (by assumption) ?_
      rotate_left
      · simp only [List.getElem_toArray, List.getElem_cons_zero, List.getElem_cons_succ]; intro W hSw; (try dsimp only at hSw); go_simp; all_goals with_reducible rfl
      simp only [Act.put, List.getElem_toArray, List.getElem_cons_zero, List.getElem_cons_succ, List.setIfInBounds_toArray, List.set_cons_zero, List.set_cons_succ]
      refine wpAnyH_ready (rs := [6, 10]) (by kernel_rfl) (by simp) ?_
      refine AllReadyH.cons rfl (fun K hK => ?_) (AllReadyH.cons rfl (fun K hK => ?_) AllReadyH.nil)
      · simp only [List.getElem_toArray, List.getElem_cons_zero, List.getElem_cons_succ]
        go_simp
        refine HC1.out.mono ?_
        rintro e w7 ⟨rfl, hg7⟩
        go_wp2_with fail
        have hk7 := goes_keep hg7
        have hb7 := goes_below hg7 HWd0.out.low.size HWd0.out.own
        obtain ⟨S7, hmid, hs7, hx7⟩ := mid_oneK (n1 := N1) HWd0.out HPd0.out HOw.out hg7
        have HMid := Lib.hid hmid
        have HBx := Lib.hid (HBe.out.keep (fun b hb e => hx7 b hb (HOb.out b e)))
        have HOx := Lib.hid (show ∀ g, (Value.slice I0 (begs t P).length cI).ownBlock = some g → ¬ S7 g from fun g hg e => by
          rcases hs7 g e with h1 | h1
          · exact HOb.out g hg h1
          · have h2 := HBe.out.lt g hg
            have h3 : wr.drew.heap.size = wr.heap.size := rfl
            omega)
        clear hs7 hx7
        have hsa7 : (fun X : World => X.cell? ⟨w1.heap.size, 0, none⟩ = some (.int .i64 t) ∧ X.cell? ⟨w1.heap.size, 1, none⟩ = some (.int .i64 (t + (total P : Nat))) ∧ X.cell? ⟨b2, off2 + k, none⟩ = some (.slice A2 rows[k].length c2)) w7 := by
          obtain ⟨p0, p1, p2⟩ := HSA.out _ _ _ HWd0.out
          have hltb := (Array.getElem?_eq_some_iff.1 HWd0.out.log.2.2).1
          have hbk := hk7 _ hltb HWd0.out.log.1
          exact ⟨(World.cell?_of_block (w := wr.drew) hbk).trans p0, (World.cell?_of_block (w := wr.drew) hbk).trans p1, (hb7.cell (p := ⟨b2, off2 + k, none⟩) hb2lt).trans p2⟩
        have HS7 := Lib.hid hsa7
        have HL7 := Lib.hid (⟨(hb7.size : _), hb7⟩ : wr.drew.heap.size ≤ w7.heap.size ∧ Below w.heap.size wr.drew w7)
        clear hg7 hk7 hb7 hmid hsa7
        refine hK.out _ _ (HS7.out) (fun hHeldN => ?_)
        clear hK K hHeld
        have hHeld := hHeldN
        clear hHeldN
        (try simp only [Act.put, List.getElem_toArray, List.getElem_cons_zero, List.getElem_cons_succ, List.setIfInBounds_toArray, List.set_cons_zero, List.set_cons_succ])
        refine wpAnyH_take (i := 7) (v := ?_) rfl (by kernel_rfl) (by kernel_rfl) (by kernel_rfl) (fun _ _ _ h => h) (Or.inl ⟨by rfl, ?_⟩) (by assumption) ?_
        rotate_left
        · simp only [List.getElem_toArray, List.getElem_cons_zero, List.getElem_cons_succ]; intro W hSw; (try dsimp only at hSw); go_simp; all_goals with_reducible rfl
        simp only [Act.put, List.getElem_toArray, List.getElem_cons_zero, List.getElem_cons_succ, List.setIfInBounds_toArray, List.set_cons_zero, List.set_cons_succ]
        refine wpAnyH_take (i := 8) (v := ?_) rfl (by kernel_rfl) (by kernel_rfl) (by kernel_rfl) (fun _ _ _ h => h) (Or.inl ⟨by rfl, ?_⟩) (by assumption) ?_
        rotate_left
        · simp only [List.getElem_toArray, List.getElem_cons_zero, List.getElem_cons_succ]; intro W hSw; (try dsimp only at hSw); go_simp; all_goals with_reducible rfl
        simp only [Act.put, List.getElem_toArray, List.getElem_cons_zero, List.getElem_cons_succ, List.setIfInBounds_toArray, List.set_cons_zero, List.set_cons_succ]
        refine wpAnyH_take (i := 9) (v := ?_) rfl (by kernel_rfl) (by kernel_rfl) (by kernel_rfl) (fun _ _ _ h => h) (Or.inl ⟨by rfl, ?_⟩) (by assumption) ?_
        rotate_left
        · simp only [List.getElem_toArray, List.getElem_cons_zero, List.getElem_cons_succ]; intro W hSw; (try dsimp only at hSw); go_simp; all_goals with_reducible rfl
        simp only [Act.put, List.getElem_toArray, List.getElem_cons_zero, List.getElem_cons_succ, List.setIfInBounds_toArray, List.set_cons_zero, List.set_cons_succ]
        refine wpAnyH_ready (rs := [10]) (by kernel_rfl) (by simp) ?_
        refine AllReadyH.cons rfl (fun K hK => ?_) AllReadyH.nil
        simp only [List.getElem_toArray, List.getElem_cons_zero, List.getElem_cons_succ]
        go_simp
        have hz7 : Below w7.heap.size w7 (w7.alloc (.cells #[.int .i64 0, .int .i64 0] 23)) := (Below.refl _ w7).alloc (Nat.le_refl _) _
        have hz8 : Below w7.heap.size w7 ((w7.alloc (.cells #[.int .i64 0, .int .i64 0] 23)).setRow w7.heap.size #[.int .i64 t, .int .i64 N1]) := below_setRow hz7 (Nat.le_refl _) _
        have hlt7 : w1.heap.size < w7.heap.size := by
          have h1 := HL7.out.1
          have h2 := (Array.getElem?_eq_some_iff.1 HWd0.out.log.2.2).1
          omega
        have hlb7 : b2 < w7.heap.size := by have := HL7.out.1; have := HWd0.out.low.size; omega
        have hany : ∀ X, Below w7.heap.size w7 X → X.cell? ⟨w1.heap.size, 0, none⟩ = some (.int .i64 t) ∧ X.cell? ⟨w1.heap.size, 1, none⟩ = some (.int .i64 (t + (total P : Nat))) ∧ X.cell? ⟨b2, off2 + k, none⟩ = some (.slice A2 rows[k].length c2) := fun X hX => by
          obtain ⟨p0, p1, p2⟩ := HS7.out
          exact ⟨(hX.cell (p := ⟨w1.heap.size, 0, none⟩) hlt7).trans p0, (hX.cell (p := ⟨w1.heap.size, 1, none⟩) hlt7).trans p1, (hX.cell (p := ⟨b2, off2 + k, none⟩) hlb7).trans p2⟩
        have HA8 := Lib.hid (hany _ hz7)
        have HA9 := Lib.hid (hany _ hz8)
        have HN7 := Lib.hid (heap_alloc_new w7 (.cells #[.int .i64 0, .int .i64 0] 23))
        clear hz7 hz8 hlt7 hlb7 hany
        refine hK.out _ _ (HA8.out) (fun hHeldN => ?_)
        clear hK K hHeld
        have hHeld := hHeldN
        clear hHeldN
        (try simp only [Act.put, List.getElem_toArray, List.getElem_cons_zero, List.getElem_cons_succ, List.setIfInBounds_toArray, List.set_cons_zero, List.set_cons_succ])
        refine wpAnyH_ready (rs := [11]) (by kernel_rfl) (by simp) ?_
        refine AllReadyH.cons rfl (fun K hK => ?_) AllReadyH.nil
        simp only [List.getElem_toArray, List.getElem_cons_zero, List.getElem_cons_succ]
        rw [if_pos]
        rotate_left
        · simp [Region.wanted]
        refine wp_store_row 23 (.tmp 10) (.tmp 48) rfl w7.heap.size #[.int .i64 t, .int .i64 N1] (by simp [Act.eval, Act.put]) (by simp [Act.eval, Act.put]) 23 #[.int .i64 0, .int .i64 0] HN7.out (Tryd.infoLs _ _) (size2 _ _ _ _) (one2 _ _) ?_
        refine hK.out _ _ (HA9.out) (fun hHeldN => ?_)
        clear hK K hHeld
        have hHeld := hHeldN
        clear hHeldN
        (try simp only [Act.put, List.getElem_toArray, List.getElem_cons_zero, List.getElem_cons_succ, List.setIfInBounds_toArray, List.set_cons_zero, List.set_cons_succ])
        refine wpAnyH_take (i := 12) (v := ?_) rfl (by kernel_rfl) (by kernel_rfl) (by kernel_rfl) (fun _ _ _ h => h) (Or.inl ⟨by rfl, ?_⟩) (by assumption) ?_
        rotate_left
        · simp only [List.getElem_toArray, List.getElem_cons_zero, List.getElem_cons_succ]; intro W hSw; (try dsimp only at hSw); go_simp; all_goals with_reducible rfl
        simp only [Act.put, List.getElem_toArray, List.getElem_cons_zero, List.getElem_cons_succ, List.setIfInBounds_toArray, List.set_cons_zero, List.set_cons_succ]
        refine wpAnyH_done (by kernel_rfl) ?_ _
        obtain ⟨nb, hnb⟩ : ∃ nb, nb = w7.heap.size := ⟨_, rfl⟩
        rw [← hnb] at HMid HBx ⊢
        obtain ⟨X, hX⟩ : ∃ X, X = (w7.alloc (.cells #[.int .i64 0, .int .i64 0] 23)).setRow nb #[.int .i64 t, .int .i64 N1] := ⟨_, rfl⟩
        rw [← hX] at HMid HBx ⊢
        clear hX hnb HA8 HA9 HN7 HS7 HL7
        have hfa := appE_fits (t := t) (inc := 1) (p := total P) (l := rows[k].length) (by omega) HWr.out.fits (by omega)
        rw [← HE.out] at hfa
        have hw1 : IntKind.i64.wrap ((k : Int) + 1) = (k : Int) + 1 := by rw [IntKind.wrap_i64]; omega
        by_cases hfit : 1 ≤ rows[k].length ∧ rows[k].length ≤ 90 ∧ total P + cutN rows[k].length ≤ 24
        · have hE0 : E = 0 := hfa.2 hfit
          have HFit := Lib.hid hfit
          clear hfa hfit
          subst hE0
          have hD := HD1.out
          have hN := HN1.out
          first | rw [if_pos trivial] at hD hN | rw [if_pos rfl] at hD hN
          subst hD
          subst hN
          have hx0 := cell_of_row X w1.heap.size 1 _ _ _ HMid.out.log
          simp only [List.getElem?_toArray, List.getElem?_cons_zero, List.getElem?_cons_succ] at hx0
          have hcE : cutE rows[k].length (t + (total P : Nat)) 1 = 0 := (cutE_fits (by have := HWr.out.fits; omega) (by omega)).2 ⟨HFit.out.1, HFit.out.2.1⟩
          obtain ⟨i0, hi0, hz0, hz1, hz2⟩ := info_parts Tryd.infoR
          obtain ⟨j0, hj0, hy0, hy1, hy2⟩ := info_parts Tryd.infoI
          have HCE := Lib.hid hcE
          have HPn := Lib.hid (show P.length ≤ 20 by have := HPk.out; have := HL.out; omega)
          have hbl := begs_length t P
          have hbx := HBx.out
          unfold IntsV at hbx
          clear hcE
          go_wp2_with (first
            | (at_builtin; refine wpList_append_lies _ rfl _ _ 44 rfl w.heap.size 3 j0 (.int .i64 0) 1 8 Tryd.underlying44 hj0 hy0 hy1 hy2 rfl (by decide) _ (begs t P).length ((begs t P).map (Value.int .i64)) rfl (hbx.alloc _) ⟨X.heap.size, 0, none⟩ 1 1 [.int .i64 (t + (total P : Nat))] rfl rfl (cell_one_new _ _ _) (by simp [Value.oneCell']) (by omega) (by have := HPn.out; unfold maxLen; omega) (by have := HPn.out; omega) (by have := HMid.out.low.size; simp; omega) (X.heap.size + 1) (by simp) ?_; intro g1 cap1 X1 hrow1 hgr1 hor1 hlt1; have hM1 := HMid.out.grown HBx.out HOx.out hgr1; have HM1 := Lib.hid hM1; obtain ⟨hb1, ho1⟩ := IntsV.more HMid.out HOx.out hrow1 hor1; have HB1 := Lib.hid hb1; have HO1 := Lib.hid ho1; obtain ⟨xs, hp1, hx1⟩ := hM1.put; have HX1 := Lib.hid hx1; have s1 := (hM1.low.cell (p := ⟨b2, off2 + k, none⟩) hb2lt).trans HCA.out; have HU1 := Lib.hid (show OneP X1 (· < w.heap.size) (.slice A2 rows[k].length c2) rows[k] from ⟨A2, c2, rfl, HYA.out.keep fun b hb _ => HM1.out.low.block b hb, HLA.out.1, HLA.out.2, HNA.out⟩); clear hM1 hb1 ho1 hx1 hrow1 hgr1 hor1 hlt1)
            | (at_builtin; refine wpList_append_lies _ rfl _ _ 29 rfl w.heap.size 24 i0 (.slice none 0 0) 1 24 Tryd.underlying29 hi0 hz0 hz1 hz2 rfl (by decide) _ P.length xs rfl (hp1.alloc _) ⟨X1.heap.size, 0, none⟩ 1 1 [.slice A2 rows[k].length c2] rfl rfl (cell_one_new _ _ _) (by simp [Value.oneCell']) (by omega) (by have := HPn.out; unfold maxLen; omega) (by have := HPn.out; omega) (by have := HM1.out.low.size; simp; omega) (X1.heap.size + 1) (by simp) ?_; intro g2 cap2 X2 hrow hgr hor hlt2; obtain ⟨y1, y2, y3, y4, y5⟩ := Mid.yes HWr.out HCE.out HYA.out.1 HFit.out.2.2 HM1.out HX1.out hrow hgr hor HU1.out; have HY3 := Lib.hid y3; have HY4 := Lib.hid y4; have HY5 := Lib.hid y5; have HG2 := Lib.hid (ints_kept HM1.out HB1.out hgr y1 #[.int .i64 t, .int .i64 (t + (total P : Nat) + (cutN rows[k].length : Nat))]); have z0 := cell_of_row X2 nb 0 _ _ _ y2; have z1 := cell_of_row X2 nb 1 _ _ _ y2; simp only [List.getElem?_toArray, List.getElem?_cons_zero, List.getElem?_cons_succ] at z0 z1; clear y2 y3 y4 y5 hrow hgr hor)
            | (refine wpList_store_row rfl 23 (.tmp 6) (.tmp 64) rfl w1.heap.size #[.int .i64 t, .int .i64 (t + (total P : Nat) + (cutN rows[k].length : Nat))] (by simp [Act.eval, Act.put]) (by simp [Act.eval, Act.put]) 23 #[.int .i64 t, .int .i64 (t + (total P : Nat))] y1 (Tryd.infoLs _ _) (size2 _ _ _ _) (one2 _ _) ?_))
          go_roundw
          case rel => exact ⟨k + 1, by omega, by simp, S7, putsD d (cutAll rows[k] (t + (total P : Nat)) 1), P ++ [rows[k]], HY3.out, HY4.out, HY5.out, by have h := HG2.out; rw [hbl] at h; rw [begs_append]; exact h, by have h := HO1.out; rw [hbl] at h; exact h, by have := HPk.out; rw [List.length_append]; simp; omega⟩
          case measure => simp [intOf]; omega
        · have hE0 : ¬ E = 0 := fun e => hfit (hfa.1 e)
          have hD := HD1.out
          have hN := HN1.out
          rw [if_neg hE0] at hD hN
          subst hD
          subst hN
          clear hfa hfit
          have hM9 := HMid.out
          obtain ⟨y3, y4⟩ := Mid.no HWr.out hM9
          have y1 := hM9.log
          have z0 := cell_of_row X nb 0 _ _ _ hM9.nxt
          have z1 := cell_of_row X nb 1 _ _ _ hM9.nxt
          simp only [List.getElem?_toArray, List.getElem?_cons_zero, List.getElem?_cons_succ] at z0 z1
          have hne := HBx.out.ne hM9.log (by decide)
          have HY3 := Lib.hid y3
          have HY4 := Lib.hid y4
          have HY5 := Lib.hid hM9.nput
          have HY6 := Lib.hid (HBx.out.keep (w' := X.setRow w1.heap.size #[.int .i64 t, .int .i64 (t + (total P : Nat))]) (fun b hb e => setRow_other _ _ _ _ (fun e2 => hne (by rw [← e2]; exact e))))
          clear hM9 y3 y4 hne
          go_wp2_with (refine wpList_store_row rfl 23 (.tmp 6) (.tmp 64) rfl w1.heap.size #[.int .i64 t, .int .i64 (t + (total P : Nat))] (by simp [Act.eval, Act.put]) (by simp [Act.eval, Act.put]) 23 #[.int .i64 t, .int .i64 (t + (total P : Nat))] y1 (Tryd.infoLs _ _) (size2 _ _ _ _) (one2 _ _) ?_)
          go_roundw
          case rel => exact ⟨k + 1, by omega, by simp, S7, _, P, HY3.out, HY4.out, HY5.out, HY6.out, HOx.out, by have := HPk.out; omega⟩
          case measure => simp [intOf]; omega
      · simp only [List.getElem_toArray, List.getElem_cons_zero, List.getElem_cons_succ]
        go_simp
        refine hK.out _ _ (HSA.out _ _ _ HWd1.out) (fun hHeldN => ?_)
        clear hK K hHeld
        have hHeld := hHeldN
        clear hHeldN
        (try simp only [Act.put, List.getElem_toArray, List.getElem_cons_zero, List.getElem_cons_succ, List.setIfInBounds_toArray, List.set_cons_zero, List.set_cons_succ])
        refine wpAnyH_ready (rs := [6]) (by kernel_rfl) (by simp) ?_
        refine AllReadyH.cons rfl (fun K hK => ?_) AllReadyH.nil
        simp only [List.getElem_toArray, List.getElem_cons_zero, List.getElem_cons_succ]
        go_simp
        refine HC2.out.mono ?_
        rintro e w7 ⟨rfl, hg7⟩
        go_wp2_with fail
        have hk7 := goes_keep hg7
        have hb7 := goes_below hg7 HWd1.out.low.size HWd1.out.own
        obtain ⟨S7, hmid, hn7, hs7, hx7⟩ := mid_twoK (n1 := N1) HWd0.out HPd0.out HOw.out hg7
        have HMid := Lib.hid hmid
        have HBx := Lib.hid (HBe.out.keep (fun b hb e => hx7 b hb (HOb.out b e)))
        have HOx := Lib.hid (show ∀ g, (Value.slice I0 (begs t P).length cI).ownBlock = some g → ¬ S7 g from fun g hg e => by
          rcases hs7 g e with h1 | h1
          · exact HOb.out g hg h1
          · have h2 := HBe.out.lt g hg
            have h3 : wr.drew.heap.size = wr.heap.size := rfl
            omega)
        clear hs7 hx7
        have HN7 := Lib.hid hn7
        have hsa7 : (fun X : World => X.cell? ⟨w1.heap.size, 0, none⟩ = some (.int .i64 t) ∧ X.cell? ⟨w1.heap.size, 1, none⟩ = some (.int .i64 (t + (total P : Nat))) ∧ X.cell? ⟨b2, off2 + k, none⟩ = some (.slice A2 rows[k].length c2)) w7 := by
          obtain ⟨p0, p1, p2⟩ := HSA.out _ _ _ HWd1.out
          have hltb := (Array.getElem?_eq_some_iff.1 HWd1.out.log.2.2).1
          have hbk := hk7 _ hltb HWd1.out.log.1
          exact ⟨(World.cell?_of_block (w := wr.drew.alloc (.cells #[.int .i64 0, .int .i64 0] 23)) hbk).trans p0, (World.cell?_of_block (w := wr.drew.alloc (.cells #[.int .i64 0, .int .i64 0] 23)) hbk).trans p1, (hb7.cell (p := ⟨b2, off2 + k, none⟩) hb2lt).trans p2⟩
        have HS7 := Lib.hid hsa7
        have hany : (fun X : World => X.cell? ⟨w1.heap.size, 0, none⟩ = some (.int .i64 t) ∧ X.cell? ⟨w1.heap.size, 1, none⟩ = some (.int .i64 (t + (total P : Nat))) ∧ X.cell? ⟨b2, off2 + k, none⟩ = some (.slice A2 rows[k].length c2)) (w7.setRow wr.drew.heap.size #[.int .i64 t, .int .i64 N1]) := by
          have h1 := (Array.getElem?_eq_some_iff.1 HWd0.out.log.2.2).1
          have h2 := HWd0.out.low.size
          obtain ⟨p0, p1, p2⟩ := hsa7
          have ho : ∀ b j, b ≠ wr.drew.heap.size → (w7.setRow wr.drew.heap.size #[.int .i64 t, .int .i64 N1]).cell? ⟨b, j, none⟩ = w7.cell? ⟨b, j, none⟩ := fun b j hb => World.cell?_of_block (w := w7) (setRow_other _ _ _ _ hb)
          exact ⟨(ho _ _ (by omega)).trans p0, (ho _ _ (by omega)).trans p1, (ho _ _ (by omega)).trans p2⟩
        have HA9 := Lib.hid hany
        clear hg7 hk7 hb7 hmid hsa7 hn7 hany
        refine hK.out _ _ (HS7.out) (fun hHeldN => ?_)
        clear hK K hHeld
        have hHeld := hHeldN
        clear hHeldN
        (try simp only [Act.put, List.getElem_toArray, List.getElem_cons_zero, List.getElem_cons_succ, List.setIfInBounds_toArray, List.set_cons_zero, List.set_cons_succ])
        refine wpAnyH_take (i := 7) (v := ?_) rfl (by kernel_rfl) (by kernel_rfl) (by kernel_rfl) (fun _ _ _ h => h) (Or.inl ⟨by rfl, ?_⟩) (by assumption) ?_
        rotate_left
        · simp only [List.getElem_toArray, List.getElem_cons_zero, List.getElem_cons_succ]; intro W hSw; (try dsimp only at hSw); go_simp; all_goals with_reducible rfl
        simp only [Act.put, List.getElem_toArray, List.getElem_cons_zero, List.getElem_cons_succ, List.setIfInBounds_toArray, List.set_cons_zero, List.set_cons_succ]
        refine wpAnyH_take (i := 8) (v := ?_) rfl (by kernel_rfl) (by kernel_rfl) (by kernel_rfl) (fun _ _ _ h => h) (Or.inl ⟨by rfl, ?_⟩) (by assumption) ?_
        rotate_left
        · simp only [List.getElem_toArray, List.getElem_cons_zero, List.getElem_cons_succ]; intro W hSw; (try dsimp only at hSw); go_simp; all_goals with_reducible rfl
        simp only [Act.put, List.getElem_toArray, List.getElem_cons_zero, List.getElem_cons_succ, List.setIfInBounds_toArray, List.set_cons_zero, List.set_cons_succ]
        refine wpAnyH_take (i := 9) (v := ?_) rfl (by kernel_rfl) (by kernel_rfl) (by kernel_rfl) (fun _ _ _ h => h) (Or.inl ⟨by rfl, ?_⟩) (by assumption) ?_
        rotate_left
        · simp only [List.getElem_toArray, List.getElem_cons_zero, List.getElem_cons_succ]; intro W hSw; (try dsimp only at hSw); go_simp; all_goals with_reducible rfl
        simp only [Act.put, List.getElem_toArray, List.getElem_cons_zero, List.getElem_cons_succ, List.setIfInBounds_toArray, List.set_cons_zero, List.set_cons_succ]
        refine wpAnyH_ready (rs := [11]) (by kernel_rfl) (by simp) ?_
        refine AllReadyH.cons rfl (fun K hK => ?_) AllReadyH.nil
        simp only [List.getElem_toArray, List.getElem_cons_zero, List.getElem_cons_succ]
        rw [if_pos]
        rotate_left
        · simp [Region.wanted]
        refine wp_store_row 23 (.tmp 10) (.tmp 48) rfl wr.drew.heap.size #[.int .i64 t, .int .i64 N1] (by simp [Act.eval, Act.put]) (by simp [Act.eval, Act.put]) 23 #[.int .i64 0, .int .i64 0] HN7.out (Tryd.infoLs _ _) (size2 _ _ _ _) (one2 _ _) ?_
        refine hK.out _ _ (HA9.out) (fun hHeldN => ?_)
        clear hK K hHeld
        have hHeld := hHeldN
        clear hHeldN
        (try simp only [Act.put, List.getElem_toArray, List.getElem_cons_zero, List.getElem_cons_succ, List.setIfInBounds_toArray, List.set_cons_zero, List.set_cons_succ])
        refine wpAnyH_take (i := 12) (v := ?_) rfl (by kernel_rfl) (by kernel_rfl) (by kernel_rfl) (fun _ _ _ h => h) (Or.inl ⟨by rfl, ?_⟩) (by assumption) ?_
        rotate_left
        · simp only [List.getElem_toArray, List.getElem_cons_zero, List.getElem_cons_succ]; intro W hSw; (try dsimp only at hSw); go_simp; all_goals with_reducible rfl
        simp only [Act.put, List.getElem_toArray, List.getElem_cons_zero, List.getElem_cons_succ, List.setIfInBounds_toArray, List.set_cons_zero, List.set_cons_succ]
        refine wpAnyH_done (by kernel_rfl) ?_ _
        obtain ⟨nb, hnb⟩ : ∃ nb, nb = wr.drew.heap.size := ⟨_, rfl⟩
        rw [← hnb] at HMid HBx ⊢
        rw [show wr.heap.size = nb from hnb.symm]
        obtain ⟨X, hX⟩ : ∃ X, X = w7.setRow nb #[.int .i64 t, .int .i64 N1] := ⟨_, rfl⟩
        rw [← hX] at HMid HBx ⊢
        clear hX hnb HA9 HN7 HS7
        have hfa := appE_fits (t := t) (inc := 1) (p := total P) (l := rows[k].length) (by omega) HWr.out.fits (by omega)
        rw [← HE.out] at hfa
        have hw1 : IntKind.i64.wrap ((k : Int) + 1) = (k : Int) + 1 := by rw [IntKind.wrap_i64]; omega
        by_cases hfit : 1 ≤ rows[k].length ∧ rows[k].length ≤ 90 ∧ total P + cutN rows[k].length ≤ 24
        · have hE0 : E = 0 := hfa.2 hfit
          have HFit := Lib.hid hfit
          clear hfa hfit
          subst hE0
          have hD := HD1.out
          have hN := HN1.out
          first | rw [if_pos trivial] at hD hN | rw [if_pos rfl] at hD hN
          subst hD
          subst hN
          have hx0 := cell_of_row X w1.heap.size 1 _ _ _ HMid.out.log
          simp only [List.getElem?_toArray, List.getElem?_cons_zero, List.getElem?_cons_succ] at hx0
          have hcE : cutE rows[k].length (t + (total P : Nat)) 1 = 0 := (cutE_fits (by have := HWr.out.fits; omega) (by omega)).2 ⟨HFit.out.1, HFit.out.2.1⟩
          obtain ⟨i0, hi0, hz0, hz1, hz2⟩ := info_parts Tryd.infoR
          obtain ⟨j0, hj0, hy0, hy1, hy2⟩ := info_parts Tryd.infoI
          have HCE := Lib.hid hcE
          have HPn := Lib.hid (show P.length ≤ 20 by have := HPk.out; have := HL.out; omega)
          have hbl := begs_length t P
          have hbx := HBx.out
          unfold IntsV at hbx
          clear hcE
          go_wp2_with (first
            | (at_builtin; refine wpList_append_lies _ rfl _ _ 44 rfl w.heap.size 3 j0 (.int .i64 0) 1 8 Tryd.underlying44 hj0 hy0 hy1 hy2 rfl (by decide) _ (begs t P).length ((begs t P).map (Value.int .i64)) rfl (hbx.alloc _) ⟨X.heap.size, 0, none⟩ 1 1 [.int .i64 (t + (total P : Nat))] rfl rfl (cell_one_new _ _ _) (by simp [Value.oneCell']) (by omega) (by have := HPn.out; unfold maxLen; omega) (by have := HPn.out; omega) (by have := HMid.out.low.size; simp; omega) (X.heap.size + 1) (by simp) ?_; intro g1 cap1 X1 hrow1 hgr1 hor1 hlt1; have hM1 := HMid.out.grown HBx.out HOx.out hgr1; have HM1 := Lib.hid hM1; obtain ⟨hb1, ho1⟩ := IntsV.more HMid.out HOx.out hrow1 hor1; have HB1 := Lib.hid hb1; have HO1 := Lib.hid ho1; obtain ⟨xs, hp1, hx1⟩ := hM1.put; have HX1 := Lib.hid hx1; have s1 := (hM1.low.cell (p := ⟨b2, off2 + k, none⟩) hb2lt).trans HCA.out; have HU1 := Lib.hid (show OneP X1 (· < w.heap.size) (.slice A2 rows[k].length c2) rows[k] from ⟨A2, c2, rfl, HYA.out.keep fun b hb _ => HM1.out.low.block b hb, HLA.out.1, HLA.out.2, HNA.out⟩); clear hM1 hb1 ho1 hx1 hrow1 hgr1 hor1 hlt1)
            | (at_builtin; refine wpList_append_lies _ rfl _ _ 29 rfl w.heap.size 24 i0 (.slice none 0 0) 1 24 Tryd.underlying29 hi0 hz0 hz1 hz2 rfl (by decide) _ P.length xs rfl (hp1.alloc _) ⟨X1.heap.size, 0, none⟩ 1 1 [.slice A2 rows[k].length c2] rfl rfl (cell_one_new _ _ _) (by simp [Value.oneCell']) (by omega) (by have := HPn.out; unfold maxLen; omega) (by have := HPn.out; omega) (by have := HM1.out.low.size; simp; omega) (X1.heap.size + 1) (by simp) ?_; intro g2 cap2 X2 hrow hgr hor hlt2; obtain ⟨y1, y2, y3, y4, y5⟩ := Mid.yes HWr.out HCE.out HYA.out.1 HFit.out.2.2 HM1.out HX1.out hrow hgr hor HU1.out; have HY3 := Lib.hid y3; have HY4 := Lib.hid y4; have HY5 := Lib.hid y5; have HG2 := Lib.hid (ints_kept HM1.out HB1.out hgr y1 #[.int .i64 t, .int .i64 (t + (total P : Nat) + (cutN rows[k].length : Nat))]); have z0 := cell_of_row X2 nb 0 _ _ _ y2; have z1 := cell_of_row X2 nb 1 _ _ _ y2; simp only [List.getElem?_toArray, List.getElem?_cons_zero, List.getElem?_cons_succ] at z0 z1; clear y2 y3 y4 y5 hrow hgr hor)
            | (refine wpList_store_row rfl 23 (.tmp 6) (.tmp 64) rfl w1.heap.size #[.int .i64 t, .int .i64 (t + (total P : Nat) + (cutN rows[k].length : Nat))] (by simp [Act.eval, Act.put]) (by simp [Act.eval, Act.put]) 23 #[.int .i64 t, .int .i64 (t + (total P : Nat))] y1 (Tryd.infoLs _ _) (size2 _ _ _ _) (one2 _ _) ?_))
          go_roundw
          case rel => exact ⟨k + 1, by omega, by simp, S7, putsD d (cutAll rows[k] (t + (total P : Nat)) 1), P ++ [rows[k]], HY3.out, HY4.out, HY5.out, by have h := HG2.out; rw [hbl] at h; rw [begs_append]; exact h, by have h := HO1.out; rw [hbl] at h; exact h, by have := HPk.out; rw [List.length_append]; simp; omega⟩
          case measure => simp [intOf]; omega
        · have hE0 : ¬ E = 0 := fun e => hfit (hfa.1 e)
          have hD := HD1.out
          have hN := HN1.out
          rw [if_neg hE0] at hD hN
          subst hD
          subst hN
          clear hfa hfit
          have hM9 := HMid.out
          obtain ⟨y3, y4⟩ := Mid.no HWr.out hM9
          have y1 := hM9.log
          have z0 := cell_of_row X nb 0 _ _ _ hM9.nxt
          have z1 := cell_of_row X nb 1 _ _ _ hM9.nxt
          simp only [List.getElem?_toArray, List.getElem?_cons_zero, List.getElem?_cons_succ] at z0 z1
          have hne := HBx.out.ne hM9.log (by decide)
          have HY3 := Lib.hid y3
          have HY4 := Lib.hid y4
          have HY5 := Lib.hid hM9.nput
          have HY6 := Lib.hid (HBx.out.keep (w' := X.setRow w1.heap.size #[.int .i64 t, .int .i64 (t + (total P : Nat))]) (fun b hb e => setRow_other _ _ _ _ (fun e2 => hne (by rw [← e2]; exact e))))
          clear hM9 y3 y4 hne
          go_wp2_with (refine wpList_store_row rfl 23 (.tmp 6) (.tmp 64) rfl w1.heap.size #[.int .i64 t, .int .i64 (t + (total P : Nat))] (by simp [Act.eval, Act.put]) (by simp [Act.eval, Act.put]) 23 #[.int .i64 t, .int .i64 (t + (total P : Nat))] y1 (Tryd.infoLs _ _) (size2 _ _ _ _) (one2 _ _) ?_)
          go_roundw
          case rel => exact ⟨k + 1, by omega, by simp, S7, _, P, HY3.out, HY4.out, HY5.out, HY6.out, HOx.out, by have := HPk.out; omega⟩
          case measure => simp [intOf]; omega
    · obtain rfl : k = n := by omega
      subst hvB
      subst hvI
      have hkn : ¬ (k : Int) < (k : Int) := by omega
      have hbl := begs_length t P
      have HBl := Lib.hid hbl
      rw [hbl]
      clear hbl
      obtain ⟨M, hM⟩ : ∃ M, M = total P := ⟨_, rfl⟩
      have HM := Lib.hid hM
      have HM24 := Lib.hid (show M ≤ 24 by rw [hM]; exact HWr.out.fits)
      have HL0 := Lib.hid (show wr.cell? ⟨w1.heap.size, 1, none⟩ = some (.int .i64 (t + (M : Int))) by rw [hM]; exact cell_of_row wr w1.heap.size 1 _ _ _ HWr.out.log.2.2)
      clear hM
      go_wp2_with fail
      generalize wr = W5 at *
      go_loopw [12] (fun p wx => ∃ j : Nat, j ≤ M ∧ p = .int .i64 (t + (j : Int)) ∧ Below W5.heap.size W5 wx) (fun p _ => (t + (M : Int) - intOf p).toNat)
      case atStart => exact ⟨0, Nat.zero_le _, by simp, Below.refl _ _⟩
      case round =>
        obtain ⟨j, hj, rfl, hbx⟩ := hrel
        have hwx := HWr.out.below hbx
        have hc1 : wr.cell? ⟨w1.heap.size, 1, none⟩ = some (.int .i64 (t + (M : Int))) := by rw [HM.out]; exact cell_of_row wr w1.heap.size 1 _ _ _ hwx.log.2.2
        have hw24 : IntKind.i64.wrap (t + 24) = t + 24 := by rw [IntKind.wrap_i64]; omega
        have HWx := Lib.hid hwx
        have HBx := Lib.hid hbx
        clear hbx
        by_cases hlt : j < M
        · have hq5 : t + (j : Int) < t + (M : Int) := by omega
          have hq6 : t + (j : Int) < t + 24 := by have := HM24.out; omega
          obtain ⟨KK, NX, L, hKK, hsc, hLm, hLl, hiff, hN1, hN2⟩ := scan_each hwx.recs hwx.lies hwx.fits (by rw [← HM.out]; exact hlt)
          have hscan := hS wr S w.heap.size d (t + (j : Int)) hwx.disk hwx.up (widths_low HWd.out hwx.low HWd.out.1) (by unfold isSeq; simp; have := HM24.out; omega)
          rw [hsc] at hscan
          dsimp only at hscan
          rw [hLm, hLl] at hscan
          have HSc := Lib.hid hscan
          have HIff := Lib.hid hiff
          rw [← HM.out] at hN1
          have HN1 := Lib.hid hN1
          have HN2 := Lib.hid hN2
          have HKK := Lib.hid hKK
          clear hwx hsc hLm hLl hscan hiff hN1 hN2 hKK
          go_wp2_with fail
          refine HSc.out.mono ?_
          rintro e w8 ⟨A3, c3, rfl, hrows, hl3, hm3, hn3, hb8⟩
          obtain ⟨w9, hw9⟩ : ∃ w9, w9 = w8.alloc (.cells #[.int .i64 (t + (j : Int)), .int .i64 NX] 23) := ⟨_, rfl⟩
          have hb9 : Below w8.heap.size w8 w9 := by rw [hw9]; exact (Below.refl _ w8).alloc (Nat.le_refl _) _
          have hb79 : Below wr.heap.size wr w9 := hb8.trans (hb9.mono hb8.size)
          have hrow9 : w9.heap[w8.heap.size]? = some (.cells #[.int .i64 (t + (j : Int)), .int .i64 NX] 23 (0, 0)) := by rw [hw9]; exact heap_alloc_new w8 _
          have z0 := cell_of_row w9 w8.heap.size 0 _ _ _ hrow9
          simp only [List.getElem?_toArray, List.getElem?_cons_zero] at z0
          have HR9 := Lib.hid hrow9
          have HG9 := Lib.hid (hrows.below hb9 (fun b _ h => h))
          have HB9 := Lib.hid (HBx.out.trans (hb79.mono HBx.out.size))
          have HW9 := Lib.hid hw9
          rw [hw9] at z0
          clear hb9 hb79 hrow9 hrows hb8 hw9 hc1
          go_wp2_with fail
          rw [← HW9.out]
          go_loopw [16, 17] (fun kv iv wy => ∃ m : Nat, m ≤ P.length ∧ iv = .int .i64 (m : Int) ∧ kv = .int .i64 (if KK < m then (KK : Int) else (P.length : Int)) ∧ wy = w9) (fun _ iv _ => P.length - (intOf iv).toNat)
          case atStart => exact ⟨0, Nat.zero_le _, rfl, by simp, rfl⟩
          case round =>
            obtain ⟨m, hm, rfl, hkv, hwy⟩ := hrel
            subst hwy
            by_cases hmlt : m < P.length
            · have hbe := (HBe.out.keep (w' := wr) fun b hb _ => HB9.out.block b hb)
              obtain ⟨I1, cI1, hv1, hcells⟩ := hbe.slice
              rw [HBl.out] at hv1
              obtain ⟨rfl, rfl⟩ : I0 = I1 ∧ cI = cI1 := by simpa using hv1
              obtain ⟨bb, rfl, _, hcell⟩ := hcells (by rw [HBl.out]; omega)
              have hcm := hcell m (by rw [HBl.out]; exact hmlt)
              rw [begs_get] at hcm
              have hmm : (m : Int) < (P.length : Int) := by omega
              have hw2 : IntKind.i64.wrap ((m : Int) + 1) = (m : Int) + 1 := by have := HPk.out; have := HL.out; rw [IntKind.wrap_i64]; omega
              have hst : m + 1 ≤ P.length := hmlt
              clear hbe hv1 hcells hcell
              by_cases hmk : m = KK
              · rw [(HIff.out m hmlt).2 hmk] at hcm
                have hkv1 : Value.int .i64 (m : Int) = .int .i64 (if KK < m + 1 then (KK : Int) else (P.length : Int)) := by rw [if_pos (by omega), hmk]
                have HKV := Lib.hid hkv1
                clear hkv1 hkv hmk
                go_wp2_with fail
                go_roundw
                case rel => exact ⟨m + 1, hst, by simp, HKV.out, by first | trivial | rfl⟩
                case measure => simp [intOf]; omega
              · have hne : ¬ total (P.take m) = j := fun e => hmk ((HIff.out m hmlt).1 e)
                have hne' : ¬ t + ((total (P.take m) : Nat) : Int) = t + (j : Int) := by omega
                have hkv1 : u16 = .int .i64 (if KK < m + 1 then (KK : Int) else (P.length : Int)) := by
                  rw [hkv]
                  by_cases h : KK < m
                  · rw [if_pos h, if_pos (by omega)]
                  · rw [if_neg h, if_neg (by omega)]
                have HKV := Lib.hid hkv1
                clear hkv1 hkv hmk
                go_wp2_with fail
                go_roundw
                case rel => exact ⟨m + 1, hst, by simp, HKV.out, by first | trivial | rfl⟩
                case measure => simp [intOf]; omega
            · obtain rfl : m = P.length := by omega
              have hkv1 : u16 = .int .i64 (KK : Int) := by
                rw [hkv]
                by_cases h : KK < P.length
                · rw [if_pos h]
                · rw [if_neg h]; have := HKK.out; congr 1; omega
              subst hkv1
              have hmm : ¬ (P.length : Int) < (P.length : Int) := by omega
              clear hkv
              have hput9 := HPu.out.keep (w' := wr) fun b hb _ => HB9.out.block b hb
              obtain ⟨B0', cB', hv9, hr9, hc9, hn9⟩ := hput9.rows_
              obtain ⟨rfl, rfl⟩ : B0 = B0' ∧ cB = cB' := by simpa using hv9
              have hKc : KK ≤ cB := by have := HKK.out; omega
              have hKP : KK ≤ P.length := HKK.out
              have hdl : (P.drop KK).length = P.length - KK := List.length_drop
              have HRw := Lib.hid (rows_any A3 (if cB = KK then B0 else B0.map (·.add KK)) c3 (cB - KK) (P.drop KK) (P.drop KK) wr (HG9.out.mono fun _ _ _ => trivial) (hr9.drop KK hc9) (by rw [hdl]; have := HPk.out; have := HL.out; omega) (by rw [hdl]; have := HPk.out; have := HL.out; omega))
              rw [hdl] at HRw
              clear hput9 hv9 hr9 hc9 hn9 hdl
              have hwj : IntKind.i64.wrap (t + (j : Int) + 1) = t + (j : Int) + 1 := by have := HM24.out; rw [IntKind.wrap_i64]; omega
              by_cases hck : cB = KK
              · rw [if_pos hck] at HRw
                by_cases hKl : KK < P.length
                · exfalso; omega
                · have hKe : KK = P.length := by omega
                  have hNX := HN2.out hKe
                  subst hNX
                  subst hKe
                  subst hck
                  simp only [Nat.sub_self] at HRw
                  have hKl2 : ¬ (P.length : Int) < (P.length : Int) := by omega
                  go_wp2_with fail
                  refine HRw.out.mono ?_
                  rintro e w10 ⟨rfl, hb10⟩
                  simp only [decide_true]
                  have hlow10 := HB9.out.trans (hb10.mono HB9.out.size)
                  have hr10 := (hb10.block _ (Array.getElem?_eq_some_iff.1 HR9.out).1).trans HR9.out
                  have z1 := cell_of_row w10 w8.heap.size 1 _ _ _ hr10
                  simp only [List.getElem?_toArray, List.getElem?_cons_zero, List.getElem?_cons_succ] at z1
                  have z2 : w10.cell? ⟨w1.heap.size, 1, none⟩ = some (.int .i64 (t + (M : Int))) := by rw [HM.out]; exact cell_of_row w10 w1.heap.size 1 _ _ _ (HWr.out.below hlow10).log.2.2
                  have HL10 := Lib.hid hlow10
                  clear hb10 hlow10 hr10
                  go_wp2_with fail
                  go_roundw
                  case rel => exact ⟨j + 1, by omega, by congr 1; omega, HL10.out⟩
                  case measure => simp [intOf]; omega
              · rw [if_neg hck] at HRw
                by_cases hKl : KK < P.length
                · have hNX := HN1.out hKl
                  subst hNX
                  have hKl2 : ¬ (KK : Int) = (P.length : Int) := by omega
                  have hKl3 : ¬ KK = P.length := by omega
                  go_wp2_with fail
                  refine HRw.out.mono ?_
                  rintro e w10 ⟨rfl, hb10⟩
                  simp only [decide_true]
                  have hlow10 := HB9.out.trans (hb10.mono HB9.out.size)
                  have hr10 := (hb10.block _ (Array.getElem?_eq_some_iff.1 HR9.out).1).trans HR9.out
                  have z1 := cell_of_row w10 w8.heap.size 1 _ _ _ hr10
                  simp only [List.getElem?_toArray, List.getElem?_cons_zero, List.getElem?_cons_succ] at z1
                  have z2 : w10.cell? ⟨w1.heap.size, 1, none⟩ = some (.int .i64 (t + (M : Int))) := by rw [HM.out]; exact cell_of_row w10 w1.heap.size 1 _ _ _ (HWr.out.below hlow10).log.2.2
                  have HL10 := Lib.hid hlow10
                  clear hb10 hlow10 hr10
                  go_wp2_with fail
                  go_roundw
                  case rel => exact ⟨j + 1, by omega, by congr 1; omega, HL10.out⟩
                  case measure => simp [intOf]; omega
                · have hKe : KK = P.length := by omega
                  have hNX := HN2.out hKe
                  subst hNX
                  subst hKe
                  skip
                  simp only [Nat.sub_self] at HRw
                  have hKl2 : ¬ (P.length : Int) < (P.length : Int) := by omega
                  go_wp2_with fail
                  refine HRw.out.mono ?_
                  rintro e w10 ⟨rfl, hb10⟩
                  simp only [decide_true]
                  have hlow10 := HB9.out.trans (hb10.mono HB9.out.size)
                  have hr10 := (hb10.block _ (Array.getElem?_eq_some_iff.1 HR9.out).1).trans HR9.out
                  have z1 := cell_of_row w10 w8.heap.size 1 _ _ _ hr10
                  simp only [List.getElem?_toArray, List.getElem?_cons_zero, List.getElem?_cons_succ] at z1
                  have z2 : w10.cell? ⟨w1.heap.size, 1, none⟩ = some (.int .i64 (t + (M : Int))) := by rw [HM.out]; exact cell_of_row w10 w1.heap.size 1 _ _ _ (HWr.out.below hlow10).log.2.2
                  have HL10 := Lib.hid hlow10
                  clear hb10 hlow10 hr10
                  go_wp2_with fail
                  go_roundw
                  case rel => exact ⟨j + 1, by omega, by congr 1; omega, HL10.out⟩
                  case measure => simp [intOf]; omega
        · obtain rfl : j = M := by omega
          have hq5 : ¬ t + (j : Int) < t + (j : Int) := by omega
          have HL9 := Lib.hid hwx.low
          have HWk := Lib.hid (hWk wr (widths_low HWd.out hwx.low HWd.out.1))
          clear hwx
          go_wp2_with fail
          refine HWk.out.mono ?_
          rintro e w11 ⟨rfl, hb11⟩
          go_wp2_with fail
          go_ret
          exact ⟨rfl, HL9.out.trans (hb11.mono HL9.out.size)⟩
end Go.Proofs.YtkajcgpkldofjaaDoor
end

section
/-
  The guards: arguments that are too great, over what wakes is to answer.
-/
namespace Go.Proofs.YtkajcgpkldofjaaDoor
open Go.RowKit Fm
set_option maxRecDepth 100000

set_option maxHeartbeats 1000000 in
theorem finds_big (hWk : WakesSays) (t z : Int) (A B : Option Addr) (l c lp cp : Nat) (w : World) (hWd : Widths w) (h : 20 < l ∨ 100 < lp ∨ t < 1 ∨ 1073741824 < t) :
    Calls Tryd.prog 4 #[.int .i64 t, .slice A l c, .int .i64 z, .slice B lp cp] w fun e w' => e = .returned (.bool true) ∧ Below w.heap.size w w' := by
  by_cases h0 : 20 < l
  · have hb0 : (20 : Int) < (l : Int) := by omega
    clear h
    have HWk := Lib.hid (hWk w hWd)
    clear hWd
    go_enter Tryd.func4, Tryd.ntmps4
    go_wp2_with fail
    refine HWk.out.mono ?_
    rintro e w7 ⟨rfl, hb7⟩
    go_wp2_with fail
    go_ret
    exact ⟨rfl, hb7⟩
  have n0 : ¬ (20 : Int) < (l : Int) := by omega
  by_cases h1 : 100 < lp
  · have hb1 : (100 : Int) < (lp : Int) := by omega
    clear h
    have HWk := Lib.hid (hWk w hWd)
    clear hWd
    go_enter Tryd.func4, Tryd.ntmps4
    go_wp2_with fail
    refine HWk.out.mono ?_
    rintro e w7 ⟨rfl, hb7⟩
    go_wp2_with fail
    go_ret
    exact ⟨rfl, hb7⟩
  have n1 : ¬ (100 : Int) < (lp : Int) := by omega
  by_cases h2 : t < 1
  · have hb2 : t < 1 := by omega
    clear h
    have HWk := Lib.hid (hWk w hWd)
    clear hWd
    go_enter Tryd.func4, Tryd.ntmps4
    go_wp2_with fail
    refine HWk.out.mono ?_
    rintro e w7 ⟨rfl, hb7⟩
    go_wp2_with fail
    go_ret
    exact ⟨rfl, hb7⟩
  have n2 : ¬ t < 1 := by omega
  have hb3 : 1073741824 < t := by omega
  clear h
  have HWk := Lib.hid (hWk w hWd)
  clear hWd
  go_enter Tryd.func4, Tryd.ntmps4
  go_wp2_with fail
  refine HWk.out.mono ?_
  rintro e w7 ⟨rfl, hb7⟩
  go_wp2_with fail
  go_ret
  exact ⟨rfl, hb7⟩

set_option maxHeartbeats 1000000 in
theorem tails_big (hWk : WakesSays) (t : Int) (A : Option Addr) (l c : Nat) (w : World) (hWd : Widths w) (h : 20 < l ∨ t < 1 ∨ 1073741824 < t) :
    Calls Tryd.prog 6 #[.int .i64 t, .slice A l c] w fun e w' => e = .returned (.bool true) ∧ Below w.heap.size w w' := by
  by_cases h0 : 20 < l
  · have hb0 : (20 : Int) < (l : Int) := by omega
    clear h
    have HWk := Lib.hid (hWk w hWd)
    clear hWd
    go_enter Tryd.func6, Tryd.ntmps6
    go_wp2_with fail
    refine HWk.out.mono ?_
    rintro e w7 ⟨rfl, hb7⟩
    go_wp2_with fail
    go_ret
    exact ⟨rfl, hb7⟩
  have n0 : ¬ (20 : Int) < (l : Int) := by omega
  by_cases h1 : t < 1
  · have hb1 : t < 1 := by omega
    clear h
    have HWk := Lib.hid (hWk w hWd)
    clear hWd
    go_enter Tryd.func6, Tryd.ntmps6
    go_wp2_with fail
    refine HWk.out.mono ?_
    rintro e w7 ⟨rfl, hb7⟩
    go_wp2_with fail
    go_ret
    exact ⟨rfl, hb7⟩
  have n1 : ¬ t < 1 := by omega
  have hb2 : 1073741824 < t := by omega
  clear h
  have HWk := Lib.hid (hWk w hWd)
  clear hWd
  go_enter Tryd.func6, Tryd.ntmps6
  go_wp2_with fail
  refine HWk.out.mono ?_
  rintro e w7 ⟨rfl, hb7⟩
  go_wp2_with fail
  go_ret
  exact ⟨rfl, hb7⟩

set_option maxHeartbeats 1000000 in
theorem later_big (hWk : WakesSays) (A A' B B' : Option Addr) (l l2 lp lp2 c c' cp cp' : Nat) (w : World) (hWd : Widths w) (h : 10 < l ∨ 10 < l2 ∨ 100 < lp ∨ 100 < lp2) :
    Calls Tryd.prog 5 #[.slice A l c, .slice A' l2 c', .slice B lp cp, .slice B' lp2 cp'] w fun e w' => e = .returned (.bool true) ∧ Below w.heap.size w w' := by
  by_cases h0 : 10 < l
  · have hb0 : (10 : Int) < (l : Int) := by omega
    clear h
    have HWk := Lib.hid (hWk w hWd)
    clear hWd
    go_enter Tryd.func5, Tryd.ntmps5
    go_wp2_with fail
    refine HWk.out.mono ?_
    rintro e w7 ⟨rfl, hb7⟩
    go_wp2_with fail
    go_ret
    exact ⟨rfl, hb7⟩
  have n0 : ¬ (10 : Int) < (l : Int) := by omega
  by_cases h1 : 10 < l2
  · have hb1 : (10 : Int) < (l2 : Int) := by omega
    clear h
    have HWk := Lib.hid (hWk w hWd)
    clear hWd
    go_enter Tryd.func5, Tryd.ntmps5
    go_wp2_with fail
    refine HWk.out.mono ?_
    rintro e w7 ⟨rfl, hb7⟩
    go_wp2_with fail
    go_ret
    exact ⟨rfl, hb7⟩
  have n1 : ¬ (10 : Int) < (l2 : Int) := by omega
  by_cases h2 : 100 < lp
  · have hb2 : (100 : Int) < (lp : Int) := by omega
    clear h
    have HWk := Lib.hid (hWk w hWd)
    clear hWd
    go_enter Tryd.func5, Tryd.ntmps5
    go_wp2_with fail
    refine HWk.out.mono ?_
    rintro e w7 ⟨rfl, hb7⟩
    go_wp2_with fail
    go_ret
    exact ⟨rfl, hb7⟩
  have n2 : ¬ (100 : Int) < (lp : Int) := by omega
  have hb3 : (100 : Int) < (lp2 : Int) := by omega
  clear h
  have HWk := Lib.hid (hWk w hWd)
  clear hWd
  go_enter Tryd.func5, Tryd.ntmps5
  go_wp2_with fail
  refine HWk.out.mono ?_
  rintro e w7 ⟨rfl, hb7⟩
  go_wp2_with fail
  go_ret
  exact ⟨rfl, hb7⟩

set_option maxHeartbeats 1000000 in
theorem says_big (hWk : WakesSays) (z x y : Int) (A : Option Addr) (l c : Nat) (w : World) (hWd : Widths w) (h : 1000 < l) :
    Calls Tryd.prog 3 #[.int .i64 z, .agg #[.int .i64 x, .int .i64 y], .slice A l c] w fun e w' => e = .returned (.bool true) ∧ Below w.heap.size w w' := by
  have hb0 : (1000 : Int) < (l : Int) := by omega
  clear h
  have HWk := Lib.hid (fun W (hb : Below w.heap.size w W) => hWk W (widths_low hWd hb hWd.1))
  clear hWd
  have HB0 := Lib.hid ((Below.refl _ w).alloc (Nat.le_refl w.heap.size) (.cells #[.int .i64 x, .int .i64 y] 23))
  go_enter Tryd.func3, Tryd.ntmps3
  go_wp2_with fail
  refine (HWk.out _ HB0.out).mono ?_
  rintro e w7 ⟨rfl, hb7⟩
  go_wp2_with fail
  go_ret
  exact ⟨rfl, HB0.out.trans (hb7.mono HB0.out.size)⟩
end Go.Proofs.YtkajcgpkldofjaaDoor
end

section
/-
  From a contract to the row: how the arguments of these laws open, and what the row asks at the end.
-/
namespace Go.Proofs.YtkajcgpkldofjaaDoor
set_option maxRecDepth 100000
open Go.ChangeShapes Go.WideShapes Go.ChangeAt Go.RowKit

theorem Tryd.own : ownKnob Tryd.prog.godebug = none := by kernel_rfl
theorem Tryd.laidOut : laidOutB Tryd.prog = true := by kernel_rfl
theorem Tryd.cells5 : Tryd.prog.cellsOf 5 = 1 := by kernel_rfl
theorem Tryd.cells3 : Tryd.prog.cellsOf 3 = 1 := by kernel_rfl

theorem u8_range {n : Int} (h : (Lit.int .u8 n).wf = true) : 0 ≤ n ∧ n ≤ 255 := by
  have h1 : IntKind.u8.min = 0 := rfl
  have h2 : IntKind.u8.max = 255 := rfl
  simp only [Lit.wf, Bool.and_eq_true, decide_eq_true_eq] at h
  omega
theorem u32_range {n : Int} (h : (Lit.int .u32 n).wf = true) : 0 ≤ n ∧ n ≤ 4294967295 := by
  have h1 : IntKind.u32.min = 0 := rfl
  have h2 : IntKind.u32.max = 4294967295 := rfl
  simp only [Lit.wf, Bool.and_eq_true, decide_eq_true_eq] at h
  omega
theorem i64_range {n : Int} (h : (Lit.int .i64 n).wf = true) : -9223372036854775808 ≤ n ∧ n ≤ 9223372036854775807 := by
  have h1 : IntKind.i64.min = -9223372036854775808 := rfl
  have h2 : IntKind.i64.max = 9223372036854775807 := rfl
  simp only [Lit.wf, Bool.and_eq_true, decide_eq_true_eq] at h
  omega

/-- An argument that is a slice of integers: its cells. -/
theorem open_row {H : Type} {enc : TypeId × Value → H} {W : World} {t e : TypeId} {k : IntKind} {a : Option Addr} {len cap : Nat} {d : DataW H} {p : List MemPlace}
    (ht : Tryd.prog.underlying t = some (.slice e)) (he : Tryd.prog.underlying e = some (.int k)) (hc : Tryd.prog.cellsOf e = 1)
    (h : DataW.Trod enc Tryd.prog W 0 (fun _ => true) true t (.slice a len cap) d p) (hlt : ∀ x ∈ p, x.block < W.heap.size) :
    len ≤ cap ∧ cap ≤ maxLen ∧ (a = none → cap = 0) ∧ ∃ zs : List Int, zs.length = len ∧ (∀ n ∈ zs, (Lit.int k n).wf = true) ∧
      (0 < len → ∃ b off, a = some ⟨b, off, none⟩ ∧ b < W.heap.size ∧ ∀ j, j < len → W.cell? ⟨b, off + j, none⟩ = some (.int k (zs.getD j 0))) := by
  obtain ⟨fuel, hf⟩ := h
  rcases open_ints ht he hc hf with ⟨hcs, hx⟩ | ⟨a', len', cap', zs, hcs, _, hl, hm, hz, hx, hcell, hwz⟩
  · simp [Value.cells] at hcs
    obtain ⟨rfl, rfl, rfl⟩ := hcs
    exact ⟨Nat.le_refl _, (by unfold maxLen; omega), (fun _ => rfl), [], rfl, (fun _ h => (List.not_mem_nil h).elim), fun h => absurd h (by omega)⟩
  · simp [Value.cells] at hcs
    obtain ⟨rfl, rfl, rfl⟩ := hcs
    simp only [Prod.mk.injEq] at hx
    obtain ⟨rfl, rfl⟩ := hx
    simp only [if_true] at hz
    refine ⟨hl, hm, (fun e => by cases e), zs.take len, (by rw [List.length_take]; omega), (fun n hn => hwz n (List.mem_of_mem_take hn)), fun hn => ?_⟩
    obtain ⟨b, off, spot⟩ := a'
    have hspot : spot = none := by simpa [Addr.add] using World.cell?_spot (hcell 0 (by omega))
    subst hspot
    refine ⟨b, off, rfl, hlt (.cell b off) (MemPlace.mem_row.2 ⟨0, by omega, by simp⟩), fun j hj => ?_⟩
    rw [← add_flat, hcell j (by omega)]
    have e : (zs.take len).getD j 0 = zs.getD j 0 := by
      have h1 : j < zs.length := by omega
      simp [List.getD, hj]
    rw [e]

/-- An argument that is a slice of bytes. -/
theorem open_by {H : Type} {enc : TypeId × Value → H} {W : World} {a : Option Addr} {len cap : Nat} {d : DataW H} {p : List MemPlace}
    (h : DataW.Trod enc Tryd.prog W 0 (fun _ => true) true 24 (.slice a len cap) d p) (hlt : ∀ x ∈ p, x.block < W.heap.size) :
    ∃ bs : List Nat, bs.length = len ∧ By W W.heap.size a bs ∧ len ≤ cap ∧ cap ≤ maxLen ∧ (a = none → cap = 0) := by
  obtain ⟨h1, h2, h3, zs, hz, hw, hc⟩ := open_row Tryd.underlying24 Tryd.underlying5 Tryd.cells5 h hlt
  refine ⟨zs.map Int.toNat, by rw [List.length_map, hz], ⟨fun x hx => ?_, fun hn => ?_⟩, h1, h2, h3⟩
  · obtain ⟨n, hn, rfl⟩ := List.mem_map.1 hx
    have := u8_range (hw n hn)
    omega
  · rw [List.length_map, hz] at hn
    obtain ⟨b, off, e, hb, hcell⟩ := hc hn
    refine ⟨b, off, e, hb, fun j hj => ?_⟩
    rw [List.length_map, hz] at hj
    have hj' : j < zs.length := by omega
    rw [hcell j hj]
    have e1 : zs.getD j 0 = zs[j] := by simp [List.getD, hj']
    have e2 : (zs.map Int.toNat).getD j 0 = zs[j].toNat := by simp [List.getD, hj']
    have := u8_range (hw _ (List.getElem_mem hj'))
    rw [e1, e2, Int.toNat_of_nonneg this.1]

/-- An argument that is a slice of arrays of integers: its cells, one array behind the other. -/
theorem open_arrays {H : Type} {enc : TypeId × Value → H} {W : World} {t e e' : TypeId} {k : IntKind} {q : Nat} {a : Option Addr} {len cap : Nat} {d : DataW H} {p : List MemPlace}
    (ht : Tryd.prog.underlying t = some (.slice e)) (he : Tryd.prog.underlying e = some (.array q e')) (he' : Tryd.prog.underlying e' = some (.int k)) (hc : Tryd.prog.cellsOf e = q) (hc' : Tryd.prog.cellsOf e' = 1) (hq : 0 < q)
    (h : DataW.Trod enc Tryd.prog W 0 (fun _ => true) true t (.slice a len cap) d p) (hlt : ∀ x ∈ p, x.block < W.heap.size) :
    len ≤ cap ∧ cap ≤ maxLen ∧ (a = none → cap = 0) ∧ ∃ zs : List Int, zs.length = len * q ∧ (∀ n ∈ zs, (Lit.int k n).wf = true) ∧
      (0 < len → ∃ b off, a = some ⟨b, off, none⟩ ∧ b < W.heap.size ∧ ∀ j, j < len * q → W.cell? ⟨b, off + j, none⟩ = some (.int k (zs.getD j 0))) := by
  obtain ⟨fuel, hf⟩ := h
  rcases Deep.open_slice ht hf with ⟨hcs, hx⟩ | ⟨a', len', cap', m, n, D, Pl, hcs, _, hl, hm, hmm, hx, hel⟩
  · simp [Value.cells] at hcs
    obtain ⟨rfl, rfl, rfl⟩ := hcs
    exact ⟨Nat.le_refl _, (by unfold maxLen; omega), (fun _ => rfl), [], by simp, (fun _ h => (List.not_mem_nil h).elim), fun h => absurd h (by omega)⟩
  · simp [Value.cells] at hcs
    obtain ⟨rfl, rfl, rfl⟩ := hcs
    simp only [Prod.mk.injEq] at hx
    obtain ⟨rfl, rfl⟩ := hx
    simp only [if_true] at hmm
    subst hmm
    rw [hc] at hel hlt
    have each : ∀ j, j < len * q → ∃ z : Int, W.cell? (a'.add j) = some (.int k z) ∧ (Lit.int k z).wf = true := by
      intro j hj
      have hi : j / q < len := Nat.div_lt_of_lt_mul (by rwa [Nat.mul_comm])
      have hr : j % q < q := Nat.mod_lt _ hq
      obtain ⟨cs', h1, h2⟩ := hel (j / q) (by omega)
      obtain ⟨_, hlen, hcell⟩ := World.cells?_some h1
      obtain ⟨xs, f, _, _, _, hxl, hxs⟩ := DataW.trod_array he h2
      have hx1 := hxs (j % q) hr
      rw [hc', Nat.mul_one, List.getElem?_eq_getElem (by omega)] at hx1
      obtain ⟨z, hz, _, hw⟩ := DataW.trod_int he' hx1
      refine ⟨z, ?_, hw⟩
      have h3 := hcell (j % q) hr
      rw [Deep.add_add, Nat.mul_comm, Nat.div_add_mod] at h3
      rw [h3]
      have h4 := congrArg (·[0]?) hz
      simpa using h4
    obtain ⟨f, hfz⟩ := Deep.choose_lt each
    have hg : ∀ j, j < len * q → ((List.range (len * q)).map f).getD j 0 = f j := fun j hj => by simp [List.getD, hj]
    refine ⟨hl, hm, (fun e => by cases e), (List.range (len * q)).map f, by simp, fun z hz => ?_, fun hn => ?_⟩
    · obtain ⟨j, hj, rfl⟩ := List.mem_map.1 hz
      exact (hfz j (List.mem_range.1 hj)).2
    · have hn' : 0 < len * q := Nat.mul_pos hn hq
      obtain ⟨b, off, spot⟩ := a'
      have hspot : spot = none := by simpa [Addr.add] using World.cell?_spot (hfz 0 hn').1
      subst hspot
      have hcap := Nat.mul_pos (Nat.lt_of_lt_of_le hn hl) hq
      refine ⟨b, off, rfl, hlt (.cell b off) (List.mem_append_left _ (MemPlace.mem_row.2 ⟨0, hcap, by simp⟩)), fun j hj => ?_⟩
      rw [← add_flat, (hfz j hj).1, hg j hj]
/-- .. of bytes. -/
theorem by_of_ints {W : World} {a : Option Addr} {n : Nat} {zs : List Int} (hz : zs.length = n) (hw : ∀ z ∈ zs, (Lit.int .u8 z).wf = true)
    (hc : 0 < n → ∃ b off, a = some ⟨b, off, none⟩ ∧ b < W.heap.size ∧ ∀ j, j < n → W.cell? ⟨b, off + j, none⟩ = some (.int .u8 (zs.getD j 0))) :
    ∃ bs : List Nat, bs.length = n ∧ By W W.heap.size a bs := by
  refine ⟨zs.map Int.toNat, by rw [List.length_map, hz], ⟨fun x hx => ?_, fun hn => ?_⟩⟩
  · obtain ⟨z, hz', rfl⟩ := List.mem_map.1 hx
    have := u8_range (hw z hz')
    omega
  · rw [List.length_map, hz] at hn
    obtain ⟨b, off, e, hb, hcell⟩ := hc hn
    refine ⟨b, off, e, hb, fun j hj => ?_⟩
    rw [List.length_map, hz] at hj
    have hj' : j < zs.length := by omega
    rw [hcell j hj]
    have e1 : zs.getD j 0 = zs[j] := by simp [List.getD, hj']
    have e2 : (zs.map Int.toNat).getD j 0 = zs[j].toNat := by simp [List.getD, hj']
    have := u8_range (hw _ (List.getElem_mem hj'))
    rw [e1, e2, Int.toNat_of_nonneg this.1]
end Go.Proofs.YtkajcgpkldofjaaDoor
end

section
/-
  What the laid variable gives; a frame that came in.
-/
namespace Go.Proofs.YtkajcgpkldofjaaDoor.Fm
set_option maxRecDepth 100000
open Go.ChangeShapes Go.WideShapes Go.ChangeAt Go.RowKit Go.Deep

abbrev laidW : List (String × DataW Unit) := [("cashbox/frame.widths", Rows.laid_cashbox_frame_widths)]
theorem gWidths : Tryd.prog.globalNamed "cashbox/frame.widths" = some 0 := by kernel_rfl
theorem tWidths : (Tryd.prog.globals[0]?).map (·.type) = some 126 := by kernel_rfl
theorem at_one {l : List Value} {i : Nat} {v : Value} (h : (l.drop i).take 1 = [v]) : l[i]? = some v := by
  have h1 := congrArg (fun m => m[0]?) h
  simpa [List.getElem?_take, List.getElem?_drop] using h1
/-- the door's own heap meets what the row asks -/
theorem door_met (os : Os) (args : Array Value) : laidMetH Tryd.prog laidW ((World.doorLaid Tryd.prog 400 os).forCall (fun _ _ => 0) ⟨#[], args, []⟩).memory :=
  laidMetH_of_parts3 (fuel := 8) (laidMet_of_run' 8 (by kernel_rfl) (by kernel_rfl)) (by kernel_rfl) (by kernel_rfl)
theorem of_laid {W : World} (h : laidMetH Tryd.prog laidW W) : Widths W := by
  rw [MakeChecks.laidMetH_plain _ _ _ (by kernel_rfl)] at h
  obtain ⟨ps, ⟨g0, t0, cs0, f0, p0, q0, hg0, ht0, hv0, hd0, _, _⟩, _, _⟩ := h
  obtain rfl := Option.some.inj (gWidths.symm.trans hg0)
  obtain rfl := Option.some.inj (tWidths.symm.trans ht0)
  obtain ⟨xs, m1, rfl, hx1, hlen, hn5, hel⟩ := DataW.trod_array Tryd.underlying126 hd0
  have hcell := World.var?_cell hg0 hv0
  simp only [Prod.mk.injEq, Rows.laid_cashbox_frame_widths, DataW.agg.injEq] at hx1
  have hat : ∀ i n, i < 5 → (xs.map (·.1))[i]? = some (.lit (.int .i64 n)) → W.cell? ⟨0, i, none⟩ = some (.int .i64 n) := fun i n hi hn => by
    have e := hel i hi
    rw [List.getElem?_eq_getElem (by omega)] at e
    obtain ⟨k, h1, h2, _⟩ := DataW.trod_int Tryd.underlying3 e
    rw [Tryd.cells3, Nat.mul_one] at h1
    rw [List.getElem?_map, List.getElem?_eq_getElem (by omega), h2] at hn
    simp only [Option.map_some, Option.some.injEq, DataW.lit.injEq, Lit.int.injEq, true_and] at hn
    subst hn
    rw [hcell, ← Array.getElem?_toList]
    exact at_one h1
  rw [← hx1.1] at hat
  have c0 := hat 0 6 (by omega) rfl
  refine ⟨?_, c0, hat 1 3 (by omega) rfl, hat 2 1 (by omega) rfl, hat 3 1 (by omega) rfl, hat 4 4 (by omega) rfl⟩
  rcases Nat.eq_zero_or_pos W.heap.size with h | h
  · have hn : W.heap[0]? = none := Array.getElem?_eq_none (by omega)
    simp [World.cell?, hn] at c0
  · exact h

theorem six_ways_or (i : Nat) : i = 0 ∨ i = 1 ∨ i = 2 ∨ i = 3 ∨ i = 4 ∨ i = 5 ∨ 6 ≤ i := by omega
/-- a frame that came in -/
theorem open_frame {H : Type} {enc : TypeId × Value → H} {W : World} {base : Nat} {v : Value} {d : DataW H} {p : List MemPlace} (hv : Value.okWide Tryd.prog W .any base 54 v)
    (h : DataW.Trod enc Tryd.prog W 0 (fun _ => true) true 54 v d p) (hl : ∀ x ∈ p, x.block < W.heap.size) : ∃ A c f, v = .agg (frv A c f).toArray ∧ FrV W W.heap.size (frv A c f) f := by
  obtain ⟨cs, rfl, hsz⟩ := okWide_struct Tryd.underlying54 hv
  have h6 : Tryd.prog.cellsOf 54 = 6 := by kernel_rfl
  have k1 : Tryd.prog.cellsOf 52 = 1 := by kernel_rfl
  have k2 : Tryd.prog.cellsOf 24 = 1 := by kernel_rfl
  rw [h6] at hsz
  obtain ⟨fuel, hf⟩ := h
  obtain ⟨xs, n, _, hx, _, hlen, hg⟩ := DataW.trod_struct Tryd.underlying54 hf
  have hlen6 : xs.length = 6 := hlen
  simp only [Prod.mk.injEq] at hx
  have g0 : DataW.trod enc Tryd.prog W 0 (fun _ => true) true n 3 ((cs.toList.drop 0).take (Tryd.prog.cellsOf 3)) = xs[0]? := hg 0 _ rfl
  have g1 : DataW.trod enc Tryd.prog W 0 (fun _ => true) true n 3 ((cs.toList.drop 1).take (Tryd.prog.cellsOf 3)) = xs[1]? := hg 1 _ rfl
  have g2 : DataW.trod enc Tryd.prog W 0 (fun _ => true) true n 3 ((cs.toList.drop 2).take (Tryd.prog.cellsOf 3)) = xs[2]? := hg 2 _ rfl
  have g3 : DataW.trod enc Tryd.prog W 0 (fun _ => true) true n 3 ((cs.toList.drop 3).take (Tryd.prog.cellsOf 3)) = xs[3]? := hg 3 _ rfl
  have g4 : DataW.trod enc Tryd.prog W 0 (fun _ => true) true n 52 ((cs.toList.drop 4).take (Tryd.prog.cellsOf 52)) = xs[4]? := hg 4 _ rfl
  have g5 : DataW.trod enc Tryd.prog W 0 (fun _ => true) true n 24 ((cs.toList.drop 5).take (Tryd.prog.cellsOf 24)) = xs[5]? := hg 5 _ rfl
  rw [Tryd.cells3] at g0 g1 g2 g3
  rw [k1] at g4
  rw [k2] at g5
  rw [List.getElem?_eq_getElem (by omega)] at g0 g1 g2 g3 g4 g5
  obtain ⟨z0, a0, _, r0⟩ := DataW.trod_int Tryd.underlying3 g0
  obtain ⟨z1, a1, _, r1⟩ := DataW.trod_int Tryd.underlying3 g1
  obtain ⟨z2, a2, _, r2⟩ := DataW.trod_int Tryd.underlying3 g2
  obtain ⟨z3, a3, _, r3⟩ := DataW.trod_int Tryd.underlying3 g3
  obtain ⟨z4, a4, _, r4⟩ := DataW.trod_int Tryd.underlying52 g4
  have hmem : ∀ x ∈ (xs[5]'(by omega)).2, x.block < W.heap.size := fun x hxm => hl x (by rw [hx.2]; exact List.mem_flatMap.2 ⟨xs[5], List.getElem_mem _, hxm⟩)
  have hsl : ∃ A len c, (cs.toList.drop 5).take 1 = [.slice A len c] := by
    rcases DataW.trod_slice Tryd.underlying24 g5 with ⟨hcs, _⟩ | ⟨a, len, cap, _, _, _, _, hcs, _⟩
    · exact ⟨_, _, _, hcs⟩
    · exact ⟨_, _, _, hcs⟩
  obtain ⟨A, len, c, a5⟩ := hsl
  rw [a5] at g5
  obtain ⟨bs, rfl, hby, hc1, hc2, hc3⟩ := open_by (enc := enc) (a := A) (len := len) (cap := c) ⟨n, g5⟩ hmem
  have b0 := at_one a0
  have b1 := at_one a1
  have b2 := at_one a2
  have b3 := at_one a3
  have b4 := at_one a4
  have b5 := at_one a5
  have hm := u32_range r4
  have hm4 : ((z4.toNat : Nat) : Int) = z4 := by omega
  refine ⟨A, c, ⟨z0, z1, z2, z3, z4.toNat, bs⟩, ?_, A, c, rfl, hby, hc1, hc2, hc3, ⟨i64_range r0, i64_range r1, i64_range r2, i64_range r3, by show z4.toNat < 4294967296; omega, hby.1⟩⟩
  have hcs : cs.toList = frv A c ⟨z0, z1, z2, z3, z4.toNat, bs⟩ := by
    refine List.ext_getElem? fun i => ?_
    unfold frv
    rw [hm4]
    rcases six_ways_or i with rfl | rfl | rfl | rfl | rfl | rfl | hi
    · exact b0
    · exact b1
    · exact b2
    · exact b3
    · exact b4
    · exact b5
    · rw [List.getElem?_eq_none (by rw [Array.length_toList]; omega), List.getElem?_eq_none (by simp; omega)]
  rw [← hcs]
end Go.Proofs.YtkajcgpkldofjaaDoor.Fm
end

section
/-
  From a contract to the row, where no slice is an argument: a log as an argument.
-/
namespace Go.Proofs.YtkajcgpkldofjaaDoor.Rg
set_option maxRecDepth 100000
open Go.ChangeShapes Go.WideShapes Go.ChangeAt Go.RowKit

theorem Tryd.own : ownKnob Tryd.prog.godebug = none := by kernel_rfl
theorem Tryd.laidOut : laidOutB Tryd.prog = true := by kernel_rfl
theorem Tryd.cells3 : Tryd.prog.cellsOf 3 = 1 := by kernel_rfl
theorem i64_range {n : Int} (h : (Lit.int .i64 n).wf = true) : -9223372036854775808 ≤ n ∧ n ≤ 9223372036854775807 := by
  have h1 : IntKind.i64.min = -9223372036854775808 := rfl
  have h2 : IntKind.i64.max = 9223372036854775807 := rfl
  simp only [Lit.wf, Bool.and_eq_true, decide_eq_true_eq] at h
  omega
theorem open_log {H : Type} {enc : TypeId × Value → H} {W : World} {base : Nat} {v : Value} {d : DataW H} {p : List MemPlace} (hv : Value.okWide Tryd.prog W .any base 23 v)
    (h : DataW.Trod enc Tryd.prog W 0 (fun _ => true) true 23 v d p) : ∃ x y, v = .agg #[.int .i64 x, .int .i64 y] ∧ (Lit.int .i64 x).wf = true ∧ (Lit.int .i64 y).wf = true := by
  obtain ⟨cs, rfl, hsz⟩ := okWide_struct Tryd.underlying23 hv
  have h2 : Tryd.prog.cellsOf 23 = 2 := by kernel_rfl
  rw [h2] at hsz
  obtain ⟨fuel, hf⟩ := h
  obtain ⟨xs, n, _, hx, _, hlen, hg⟩ := DataW.trod_struct Tryd.underlying23 hf
  have hlen2 : xs.length = 2 := hlen
  have g0 : DataW.trod enc Tryd.prog W 0 (fun _ => true) true n 3 ((cs.toList.drop 0).take (Tryd.prog.cellsOf 3)) = xs[0]? := hg 0 _ rfl
  have g1 : DataW.trod enc Tryd.prog W 0 (fun _ => true) true n 3 ((cs.toList.drop 1).take (Tryd.prog.cellsOf 3)) = xs[1]? := hg 1 _ rfl
  rw [Tryd.cells3] at g0 g1
  rw [List.getElem?_eq_getElem (by omega)] at g0 g1
  obtain ⟨z0, a0, _, r0⟩ := DataW.trod_int Tryd.underlying3 g0
  obtain ⟨z1, a1, _, r1⟩ := DataW.trod_int Tryd.underlying3 g1
  refine ⟨z0, z1, ?_, r0, r1⟩
  obtain ⟨l⟩ := cs
  match l, hsz with
  | [u0, u1], _ =>
    simp at a0 a1
    rw [a0, a1]
end Go.Proofs.YtkajcgpkldofjaaDoor.Rg
end

section
/-
  From a contract to the row: a row of rows of bytes, a plan.
-/
namespace Go.Proofs.YtkajcgpkldofjaaDoor
open Go.ChangeShapes Go.WideShapes Go.ChangeAt Go.RowKit
set_option maxRecDepth 100000

theorem slice_form {H : Type} {enc : TypeId × Value → H} {W : World} {t e : TypeId} {fuel : Nat} {v : Value} {x : DataW H × List MemPlace} (ht : Tryd.prog.underlying t = some (.slice e))
    (h : DataW.trod enc Tryd.prog W 0 (fun _ => true) true fuel t [v] = some x) : ∃ a len cap, v = .slice a len cap ∧ len ≤ cap ∧ cap ≤ maxLen := by
  rcases Deep.open_slice ht h with ⟨hcs, _⟩ | ⟨a', len', cap', m, n, D, Pl, hcs, _, hl, hm, _⟩
  · simp at hcs
    exact ⟨none, 0, 0, hcs, Nat.le_refl _, by unfold maxLen; omega⟩
  · simp at hcs
    exact ⟨_, _, _, hcs, hl, hm⟩
theorem one_of {cs : List Value} (h : cs.length = 1) : ∃ c0, cs = [c0] := by
  match cs, h with
  | [c0], _ => exact ⟨c0, rfl⟩
theorem two_of {cs : List Value} (h : cs.length = 2) : ∃ c0 c1, cs = [c0, c1] := by
  match cs, h with
  | [c0, c1], _ => exact ⟨c0, c1, rfl⟩

/-- An argument that is a row of rows of bytes. -/
theorem open_rows {H : Type} {enc : TypeId × Value → H} {W : World} {a : Option Addr} {len cap : Nat} {d : DataW H} {p : List MemPlace}
    (h : DataW.Trod enc Tryd.prog W 0 (fun _ => true) true 29 (.slice a len cap) d p) (hlt : ∀ x ∈ p, x.block < W.heap.size) :
    ∃ rows : List (List Nat), rows.length = len ∧ RowsP W (· < W.heap.size) a rows ∧ len ≤ cap ∧ cap ≤ maxLen ∧ (a = none → cap = 0) := by
  obtain ⟨fuel, hf⟩ := h
  rcases Deep.open_slice Tryd.underlying29 hf with ⟨hcs, hx⟩ | ⟨a', len', cap', m, n, D, Pl, hcs, _, hl, hm, hmm, hx, hel⟩
  · simp [Value.cells] at hcs
    obtain ⟨rfl, rfl, rfl⟩ := hcs
    exact ⟨[], rfl, RowsP.nil_, Nat.le_refl _, by unfold maxLen; omega, fun _ => rfl⟩
  · simp [Value.cells] at hcs
    obtain ⟨rfl, rfl, rfl⟩ := hcs
    simp only [Prod.mk.injEq] at hx
    obtain ⟨rfl, rfl⟩ := hx
    simp only [if_true] at hmm
    subst hmm
    have hc1 : Tryd.prog.cellsOf 24 = 1 := by kernel_rfl
    rw [hc1] at hel hlt
    have each : ∀ i, i < len → ∃ bs : List Nat, ∃ v, W.cell? (a'.add i) = some v ∧ OneP W (· < W.heap.size) v bs := by
      intro i hi
      obtain ⟨cs', h1, h2⟩ := hel i (by omega)
      obtain ⟨_, hlen, hcell⟩ := World.cells?_some h1
      obtain ⟨c0, rfl⟩ := one_of hlen
      obtain ⟨A, bl, bc, rfl, _, _⟩ := slice_form Tryd.underlying24 h2
      obtain ⟨bs, hbl, hby, hb1, hb2, hb3⟩ := open_by (d := D i) (p := Pl i) ⟨n, by simpa [Value.cells] using h2⟩ (fun x hx => hlt x (List.mem_append_right _ (List.mem_flatMap.2 ⟨i, List.mem_range.2 (by omega), hx⟩)))
      refine ⟨bs, .slice A bl bc, ?_, A, bc, by rw [hbl], ByP.of_by hby (fun _ h => h), by omega, hb2, hb3⟩
      have := hcell 0 (by simp)
      rw [Deep.add_add] at this
      simpa using this
    obtain ⟨f, hfz⟩ := Deep.choose_lt each
    refine ⟨(List.range len).map f, by simp, ⟨fun r hr => ?_, fun hn => ?_⟩, hl, hm, (fun e => by cases e)⟩
    · obtain ⟨j, hj, rfl⟩ := List.mem_map.1 hr
      obtain ⟨v, _, hv⟩ := hfz j (List.mem_range.1 hj)
      exact hv.lt
    · have hn' : 0 < len := by simpa using hn
      obtain ⟨b, off, spot⟩ := a'
      have hspot : spot = none := by
        obtain ⟨v, hv, _⟩ := hfz 0 hn'
        simpa [Addr.add] using World.cell?_spot hv
      subst hspot
      refine ⟨b, off, rfl, hlt (.cell b off) (List.mem_append_left _ (MemPlace.mem_row.2 ⟨0, by omega, by simp⟩)), fun j hj => ?_⟩
      have hj' : j < len := by simpa using hj
      obtain ⟨v, q0, q1⟩ := hfz j hj'
      rw [add_flat] at q0
      exact ⟨v, q0, by simpa using q1⟩
/-- An argument that is a plan. -/
theorem open_plan {H : Type} {enc : TypeId × Value → H} {W : World} {a : Option Addr} {len cap : Nat} {d : DataW H} {p : List MemPlace}
    (h : DataW.Trod enc Tryd.prog W 0 (fun _ => true) true 36 (.slice a len cap) d p) (hlt : ∀ x ∈ p, x.block < W.heap.size) :
    ∃ plan : List (Int × Int), plan.length = len ∧ Dk.PlanAt W W.heap.size a plan ∧ (∀ x ∈ plan, (-9223372036854775808 ≤ x.1 ∧ x.1 ≤ 9223372036854775807) ∧ -9223372036854775808 ≤ x.2 ∧ x.2 ≤ 9223372036854775807) ∧ len ≤ maxLen := by
  obtain ⟨fuel, hf⟩ := h
  rcases Deep.open_slice Tryd.underlying36 hf with ⟨hcs, hx⟩ | ⟨a', len', cap', m, n, D, Pl, hcs, _, hl, hm, hmm, hx, hel⟩
  · simp [Value.cells] at hcs
    obtain ⟨rfl, rfl, rfl⟩ := hcs
    exact ⟨[], rfl, fun h => absurd h (by simp), fun x hx => (List.not_mem_nil hx).elim, by unfold maxLen; omega⟩
  · simp [Value.cells] at hcs
    obtain ⟨rfl, rfl, rfl⟩ := hcs
    simp only [Prod.mk.injEq] at hx
    obtain ⟨rfl, rfl⟩ := hx
    simp only [if_true] at hmm
    subst hmm
    have hc2 : Tryd.prog.cellsOf 109 = 2 := by kernel_rfl
    rw [hc2] at hel hlt
    have each : ∀ i, i < len → ∃ x : Int × Int, (W.cell? (a'.add (i * 2)) = some (.int .i64 x.1) ∧ W.cell? (a'.add (i * 2 + 1)) = some (.int .i64 x.2)) ∧
        (-9223372036854775808 ≤ x.1 ∧ x.1 ≤ 9223372036854775807) ∧ -9223372036854775808 ≤ x.2 ∧ x.2 ≤ 9223372036854775807 := by
      intro i hi
      obtain ⟨cs', h1, h2⟩ := hel i (by omega)
      obtain ⟨_, hlen, hcell⟩ := World.cells?_some h1
      obtain ⟨c0, c1, rfl⟩ := two_of hlen
      obtain ⟨xs, m, _, hx, _, hlen2, hg⟩ := DataW.trod_struct Tryd.underlying109 h2
      have hlen3 : xs.length = 2 := hlen2
      have g0 : DataW.trod enc Tryd.prog W 0 (fun _ => true) true m 3 (([c0, c1].drop 0).take (Tryd.prog.cellsOf 3)) = xs[0]? := hg 0 _ rfl
      have g1 : DataW.trod enc Tryd.prog W 0 (fun _ => true) true m 3 (([c0, c1].drop 1).take (Tryd.prog.cellsOf 3)) = xs[1]? := hg 1 _ rfl
      rw [Tryd.cells3] at g0 g1
      rw [List.getElem?_eq_getElem (by omega)] at g0 g1
      obtain ⟨z0, a0, _, r0⟩ := DataW.trod_int Tryd.underlying3 g0
      obtain ⟨z1, a1, _, r1⟩ := DataW.trod_int Tryd.underlying3 g1
      obtain rfl : c0 = .int .i64 z0 := by simpa using a0
      obtain rfl : c1 = .int .i64 z1 := by simpa using a1
      refine ⟨(z0, z1), ⟨?_, ?_⟩, i64_range r0, i64_range r1⟩
      · have := hcell 0 (by simp); rw [Deep.add_add] at this; simpa using this
      · have := hcell 1 (by simp); rw [Deep.add_add] at this; simpa using this
    obtain ⟨f, hfz⟩ := Deep.choose_lt each
    have hg : ∀ j, j < len → ((List.range len).map f).getD j (0, 0) = f j := fun j hj => by simp [List.getD, hj]
    refine ⟨(List.range len).map f, by simp, fun hn => ?_, fun x hx => ?_, by omega⟩
    · have hn' : 0 < len := by simpa using hn
      obtain ⟨b, off, spot⟩ := a'
      have hspot : spot = none := by simpa [Addr.add] using World.cell?_spot (hfz 0 hn').1.1
      subst hspot
      refine ⟨b, off, rfl, hlt (.cell b off) (List.mem_append_left _ (MemPlace.mem_row.2 ⟨0, by omega, by simp⟩)), fun j hj => ?_⟩
      have hj' : j < len := by simpa using hj
      obtain ⟨⟨q0, q1⟩, _⟩ := hfz j hj'
      rw [hg j hj']
      rw [add_flat] at q0 q1
      exact ⟨q0, q1⟩
    · obtain ⟨j, hj, rfl⟩ := List.mem_map.1 hx
      exact (hfz j (List.mem_range.1 hj)).2
end Go.Proofs.YtkajcgpkldofjaaDoor
end

section
/-
  A range over a function whose values are told of in memory: the function turns a block Bs of its own, the body its own cells; the body may leave the range.
-/
namespace Go.Proofs.YtkajcgpkldofjaaDoor
open Go.RowKit

/-- What is said of a world stays while Bs turns. -/
def Lasts2 {σ : Type} (Bs : Nat) (J : σ → World → Prop) : Prop := ∀ s A A', J s A → Dk.Kept (fun k => k = Bs) A A' → J s A'
/-- The function that is ranged over tells x where s has come (G s x Wp W: since Wp it made what x names), and goes on with nx s x. -/
def Tells {σ α : Type} (F : Fence) (n : Nat) (P : Program) (g : Nat) (bd : Array Value) (encs : α → Array Value) (nx : σ → α → σ) (G : σ → α → World → World → Prop) (n0 Bs : Nat) (s0 : σ) (S : σ → Prop) (Fin : World → Prop) (w : World) : Prop :=
  ∀ (l : Nat) (J Jx : σ → World → Prop) (W : World), Below w.heap.size w W → l < W.heap.size → w.heap.size ≤ l → Lasts2 Bs J → Lasts2 Bs Jx →
    (∀ s x Wp W1, J s Wp → Below Wp.heap.size Wp W1 → G s x Wp W1 → W.heap.size ≤ Wp.heap.size → YieldAt F (n - 1) P l (encs x) W1 fun e W' =>
      Dk.Kept (fun k => (n0 ≤ k ∧ k ≠ Bs) ∧ k < Wp.heap.size) W1 W' ∧ ((e = .returned (.bool true) ∧ J (nx s x) W') ∨ (e = .returned (.bool false) ∧ Jx s W'))) →
    J s0 W → CallsIn F n P g (bd ++ #[.func (.yield l) #[] #[]]) W fun e W' => (∃ v, e = .returned v) ∧ Fin W' ∧ ((∃ s, S s ∧ J s W') ∨ ∃ s, Jx s W')

variable {F : Fence} {n : Nat} {P : Program}
theorem range_told {σ α : Type} {g : Operand} {ps : Array Tmp} {assign body : Code} {Q : Exit → Act → World → Prop} {a : Act} {w : World}
    (hro : F.round = none) (h1 : 1 ≤ n) {gf : Nat} {bd : Array Value} (hg : a.eval g = .func (.func gf) bd #[]) (hFg : F.fn gf) (eg : ∀ args w, (callFunc gf args).run P w = .ok (.enter gf args) w)
    {encs : α → Array Value} {nx : σ → α → σ} {G : σ → α → World → World → Prop} {n0 Bs : Nat} {s0 : σ} {S : σ → Prop} {Fin : World → Prop} {T : Nat → Prop}
    (hT : ∀ k, T k → (n0 ≤ k ∧ k ≠ Bs) ∧ k ≠ w.heap.size ∧ k ≠ w.heap.size + 1) (hn0 : n0 ≤ w.heap.size) (hBs : Bs < w.heap.size)
    (hFin : ∀ A A', Fin A → Dk.Kept (fun k => k = w.heap.size + 1) A A' → Fin A')
    (hseq : Tells F (n - 1) P gf bd encs nx G n0 Bs s0 S Fin w) (hps : ∀ x, (encs x).size = ps.size)
    (I : σ → World → Prop) (Ix : Nat → σ → World → Prop) (hI : ∀ s A A', I s A → Dk.Kept (fun k => k = Bs ∨ k = w.heap.size ∨ k = w.heap.size + 1) A A' → I s A')
    (hIx : ∀ id s A A', Ix id s A → Dk.Kept (fun k => k = Bs ∨ k = w.heap.size ∨ k = w.heap.size + 1) A A' → Ix id s A') (h0 : I s0 w)
    (hround : ∀ (s : σ) (x : α) (Wp W : World), w.heap.size + 1 < Wp.heap.size → I s Wp → Below Wp.heap.size Wp W → G s x Wp W →
      assign.wpIn (F.inRound (w.heap.size + 1)) (n - 1 - 1) P (Exit.then (fun a1 W1 => Below W.heap.size W W1 ∧ ∀ W2, W1.grownBy W2 (some (w.heap.size + 1)) →
        body.wpIn (F.inRound (w.heap.size + 1)) (n - 1 - 1) P (fun e _ W' => Dk.Kept (fun k => T k ∧ k < Wp.heap.size) W2 W' ∧ ((e = .normal ∧ I (nx s x) W') ∨ ∃ id, e = .exit id ∧ Ix id s W')) a1 W2) (fun _ _ _ => False))
        { tmps := (ps.zip (encs x)).foldl (fun t (p, v) => t.setIfInBounds p v) a.tmps, defers := [] } W)
    (hdone : ∀ (s : σ) (W : World), S s → I s W → Fin W → w.heap.size < W.heap.size → W.heap[w.heap.size]? = some (.deferred (some [])) → Q .normal { a with defers := { target := .collected w.heap.size, args := #[] } :: a.defers } W)
    (hstop : ∀ (id : Nat) (s : σ) (W : World), Ix id s W → Fin W → w.heap.size < W.heap.size → W.heap[w.heap.size]? = some (.deferred (some [])) → Q (.exit id) { a with defers := { target := .collected w.heap.size, args := #[] } :: a.defers } W) :
    (Code.rangeFunc g ps assign body).wpIn F n P Q a w := by
  refine wpIn_rangeFunc fun fn hfn => ?_
  rw [hro]
  obtain ⟨rec, hrec⟩ : ∃ rec : LoopState → Option Code → Loop, rec = fun st pe => { state := st, pending := pe, fn, tmps := a.tmps, params := ps, assign, body, defers := w.heap.size } := ⟨_, rfl⟩
  obtain ⟨W1, hW1⟩ : ∃ W1, W1 = (w.alloc (.deferred (some []))).alloc (.loop (rec .ready none)) := ⟨_, rfl⟩
  have hs1 : W1.heap.size = w.heap.size + 2 := by rw [hW1]; simp
  have hL1 : W1.heap[w.heap.size + 1]? = some (.loop (rec .ready none)) := by
    rw [hW1]
    have h2 := World.alloc_heap_new (w.alloc (.deferred (some []))) (.loop (rec .ready none))
    rwa [World.size_alloc] at h2
  have hK1 : W1.heap[w.heap.size]? = some (.deferred (some [])) := by
    rw [hW1, Below.heap_alloc _ _ _ (by simp)]
    exact World.alloc_heap_new w _
  have hb1 : Below w.heap.size w W1 := by rw [hW1]; exact ((Below.refl _ w).alloc (Nat.le_refl _) _).alloc (by simp) _
  have hI1 : I s0 W1 := hI _ _ _ h0 (Dk.Kept.of_below hb1 (Nat.le_refl _))
  have hput : ∀ (A : World) (o : Obj), Dk.Kept (fun k => k = Bs ∨ k = w.heap.size ∨ k = w.heap.size + 1) A (A.putObj (w.heap.size + 1) o) := fun A o =>
    (Dk.Kept.refl _ A).grown (grownBy_putObj' A _ o) (fun k e _ => by obtain rfl := Option.some.inj e; exact Or.inr (Or.inr rfl))
  have hputF : ∀ (A : World) (o : Obj), Dk.Kept (fun k => k = w.heap.size + 1) A (A.putObj (w.heap.size + 1) o) := fun A o =>
    (Dk.Kept.refl _ A).grown (grownBy_putObj' A _ o) (fun k e _ => by obtain rfl := Option.some.inj e; rfl)
  have hold : ∀ {A A' : World} (k : Nat) (o : Obj), Dk.Kept (fun k => k = Bs) A A' → (k = w.heap.size ∨ k = w.heap.size + 1) → A.heap[k]? = some o → A'.heap[k]? = some o := fun k o h e hk =>
    (h.block k (Array.getElem?_eq_some_iff.1 hk).1 (fun h2 => by omega)).trans hk
  refine ⟨w.heap.size + 1, [{ target := .collected w.heap.size, args := #[] }], W1, { target := .fn (.func gf) #[], args := bd ++ #[.func (.yield (w.heap.size + 1)) #[] #[]] }, W1, gf,
    bd ++ #[.func (.yield (w.heap.size + 1)) #[] #[]], W1, ?_, ?_, ?_, ?_, fun _ => h1, ?_⟩
  · rw [hW1, hrec]; exact run_enterLoop_outer _ _ _ _ _
  · simp only [resolve, hg]
    simp [go_sem]
  · intro f' hf'
    simp [Target.leads] at hf'
    subst hf'
    exact hFg
  · simp [invoke, go_sem, eg]
  · refine (hseq (w.heap.size + 1) (fun s W => I s W ∧ W1.heap.size ≤ W.heap.size ∧ W.heap[w.heap.size + 1]? = some (.loop (rec .ready none)) ∧ W.heap[w.heap.size]? = some (.deferred (some [])))
      (fun s W => ∃ id, Ix id s W ∧ W1.heap.size ≤ W.heap.size ∧ W.heap[w.heap.size + 1]? = some (.loop (rec .done (some (.exit id)))) ∧ W.heap[w.heap.size]? = some (.deferred (some []))) W1 hb1 (by omega) (by omega) ?_ ?_ ?_ ⟨hI1, Nat.le_refl _, hL1, hK1⟩).mono ?_
    · rintro s A A' ⟨hi, hsz, hl, hk⟩ hK
      exact ⟨hI _ _ _ hi (hK.mono fun _ _ e => Or.inl e), Nat.le_trans hsz hK.size, hold _ _ hK (Or.inr rfl) hl, hold _ _ hK (Or.inl rfl) hk⟩
    · rintro s A A' ⟨id, hi, hsz, hl, hk⟩ hK
      exact ⟨id, hIx _ _ _ _ hi (hK.mono fun _ _ e => Or.inl e), Nat.le_trans hsz hK.size, hold _ _ hK (Or.inr rfl) hl, hold _ _ hK (Or.inl rfl) hk⟩
    · rintro s x Wp W ⟨hi, hsz, hl, hk⟩ hbW hGx _
      have hlp : w.heap.size + 1 < Wp.heap.size := by omega
      have hlW := (hbW.block _ hlp).trans hl
      have hkW := (hbW.block _ (by omega)).trans hk
      have hy := run_yield (P := P) (args := encs x) hlW (by rw [hrec]; exact hps x)
      rw [hrec] at hy
      refine ⟨fn, _, assign, body, hy, roundIn_of_wpIn hfn (wpIn_mono (hround s x Wp W hlp hi hbW hGx) ?_)⟩
      rintro e a1 Wa hpost
      cases e with
      | normal =>
        obtain ⟨hba, hbody⟩ := hpost
        have hltW : w.heap.size + 1 < W.heap.size := Nat.lt_of_lt_of_le hlp hbW.size
        have hla := (hba.block _ hltW).trans hlW
        have hka := (hba.block _ (by omega)).trans hkW
        refine ⟨_, run_beginRound hla (by rw [hrec]), wpIn_mono (hbody _ (grownBy_putObj' Wa _ _)) ?_⟩
        rintro e a3 W3 ⟨hk3, he⟩
        have hlta : w.heap.size + 1 < (Wa.putObj (w.heap.size + 1) (.loop { rec .ready none with state := .busy })).heap.size := by
          have := hba.size
          simp; omega
        have hl3 : W3.heap[w.heap.size + 1]? = some (.loop { rec .ready none with state := .busy }) :=
          (hk3.block _ hlta (fun e => (hT _ e.1).2.2 rfl)).trans (World.putObj_heap_same (by have := hba.size; omega))
        have hd3 : W3.heap[w.heap.size]? = some (.deferred (some [])) :=
          (hk3.block _ (Nat.lt_trans (Nat.lt_succ_self _) hlta) (fun e => (hT _ e.1).2.1 rfl)).trans ((World.putObj_heap_other (show w.heap.size ≠ w.heap.size + 1 by omega)).trans hka)
        have hlt3 := (Array.getElem?_eq_some_iff.1 hl3).1
        have hsz3 : W1.heap.size ≤ W3.heap.size := by omega
        have hkeep : ∀ o, Dk.Kept (fun k => (n0 ≤ k ∧ k ≠ Bs) ∧ k < Wp.heap.size) W (W3.putObj (w.heap.size + 1) o) := fun o => by
          have h4 : Dk.Kept (fun k => (n0 ≤ k ∧ k ≠ Bs) ∧ k < Wp.heap.size) W (Wa.putObj (w.heap.size + 1) (.loop { rec .ready none with state := .busy })) :=
            (Dk.Kept.of_below hba (Nat.le_refl _)).grown (grownBy_putObj' Wa _ _) (fun k e _ => by obtain rfl := Option.some.inj e; exact ⟨⟨by omega, by omega⟩, hlp⟩)
          exact (h4.trans hk3 (fun i _ hi => ⟨(hT i hi.1).1, hi.2⟩)).grown (grownBy_putObj' W3 _ _) (fun k e _ => by obtain rfl := Option.some.inj e; exact ⟨⟨by omega, by omega⟩, hlp⟩)
        rcases he with ⟨rfl, hi3⟩ | ⟨id, rfl, hi3⟩
        · have hend := run_endRound (P := P) none hl3
          rw [hrec] at hend
          refine ⟨_, _, hend, hkeep _, .inl ⟨rfl, ?_, ?_, ?_, ?_⟩⟩
          · exact hI _ _ _ hi3 (hput W3 _)
          · simpa using hsz3
          · rw [hrec]; exact World.putObj_heap_same hlt3
          · exact (World.putObj_heap_other (show w.heap.size ≠ w.heap.size + 1 by omega)).trans hd3
        · have hend := run_endRound (P := P) (some (.exit id)) hl3
          rw [hrec] at hend
          refine ⟨_, _, hend, hkeep _, .inr ⟨rfl, id, ?_, ?_, ?_, ?_⟩⟩
          · exact hIx _ _ _ _ hi3 (hput W3 _)
          · simpa using hsz3
          · rw [hrec]; exact World.putObj_heap_same hlt3
          · exact (World.putObj_heap_other (show w.heap.size ≠ w.heap.size + 1 by omega)).trans hd3
      | exit id => exact hpost.elim
      | goto id => exact hpost.elim
      | ret => exact hpost.elim
      | panic c => exact hpost.elim
      | outgrown => exact hpost.elim
    · rintro e W2 ⟨⟨v, rfl⟩, hfin, (⟨s, hS, hi, hsz, hl, hk⟩ | ⟨s, id, hi, hsz, hl, hk⟩)⟩
      · have hend := run_endLoop (P := P) hl (by rw [hrec]; simp)
        rw [hrec] at hend
        refine ⟨none, _, hend, hdone s _ hS (hI _ _ _ hi (hput W2 _)) (hFin _ _ hfin (hputF W2 _)) ?_ ((World.putObj_heap_other (show w.heap.size ≠ w.heap.size + 1 by omega)).trans hk)⟩
        have := (Array.getElem?_eq_some_iff.1 hk).1
        simpa using this
      · have hend := run_endLoop (P := P) hl (by rw [hrec]; simp)
        rw [hrec] at hend
        have hW2 : w.heap.size < W2.heap.size := (Array.getElem?_eq_some_iff.1 hk).1
        exact ⟨some (.exit id), _, hend, wpIn_exit (hstop id s _ (hIx _ _ _ _ hi (hput W2 _)) (hFin _ _ hfin (hputF W2 _)) (by simpa using hW2) ((World.putObj_heap_other (show w.heap.size ≠ w.heap.size + 1 by omega)).trans hk))⟩
end Go.Proofs.YtkajcgpkldofjaaDoor
end

section
/-
  What a loop that writes frames keeps; Take in one contract.
-/
namespace Go.Proofs.YtkajcgpkldofjaaDoor
open Go.RowKit Fm
set_option maxRecDepth 100000

/-- between two writes: the disk, and what was there when the first began -/
structure Puts (w2 wr : World) (S Sx : Nat → Prop) (a : Nat) (d : Dk.Dk) : Prop where
  disk : Dk.Disk wr Sx a d
  kept : Dk.Kept S w2 wr
  sub : ∀ j, Sx j → S j ∨ w2.heap.size ≤ j
section
variable {w w2 wr wr' : World} {S Sx : Nat → Prop} {a : Nat} {d d' : Dk.Dk}
theorem Puts.start (h : Dk.Disk w2 S a d) : Puts w2 w2 S S a d := ⟨h, Dk.Kept.refl _ _, fun _ h => Or.inl h⟩
theorem Puts.below (h : Puts w2 wr S Sx a d) (hb : Below wr.heap.size wr wr') : Puts w2 wr' S Sx a d :=
  ⟨h.disk.below hb (Nat.le_refl _), h.kept.below (Nat.le_refl _) hb (Or.inl h.kept.size), h.sub⟩
theorem Puts.goes (h : Puts w2 wr S Sx a d) (hg : Dk.Goes wr wr' Sx a d') : ∃ S', Puts w2 wr' S S' a d' := by
  obtain ⟨S', hd, hk, hs⟩ := hg
  have hz := h.kept.size
  refine ⟨S', hd, h.kept.trans hk fun i hi hx => ?_, fun j hj => ?_⟩
  · rcases h.sub i hx with h1 | h1
    · exact h1
    · omega
  · rcases hs j hj with h1 | h1
    · exact h.sub j h1
    · right; omega
/-- behind the last one -/
theorem Puts.out (h : Puts w2 wr S Sx a d) (hw : Below w.heap.size w w2) : Dk.Goes w wr S a d :=
  ⟨Sx, h.disk, (Dk.Kept.of_below hw (Nat.le_refl _)).trans h.kept (fun _ _ hx => hx), fun j hj => by
    have := hw.size
    rcases h.sub j hj with h1 | h1
    · exact Or.inl h1
    · right; omega⟩
/-- a block of one's own is as it was -/
theorem Puts.same (h : Puts w2 wr S Sx a d) (hS : ∀ j, S j → j < w.heap.size) {b : Nat} (h1 : w.heap.size ≤ b) (h2 : b < w2.heap.size) : wr.heap[b]? = w2.heap[b]? :=
  h.kept.block b h2 (fun e => by have := hS b e; omega)
theorem Puts.frs (h : Puts w2 wr S Sx a d) (hS : ∀ j, S j → j < w.heap.size) {A : Option Addr} {fs : List Fr} (hf : Frs w2 w2.heap.size A fs) (hn : FrsNew w2 w.heap.size A fs) : Frs wr wr.heap.size A fs := fun h0 => by
  obtain ⟨b, off, e, hlt, hc⟩ := hf h0
  obtain ⟨b', off', e', hge, hc'⟩ := hn h0
  rw [e] at e'
  obtain ⟨rfl, rfl⟩ : b = b' ∧ off = off' := by simpa using e'
  have hz := h.kept.size
  have hrow := h.same hS hge hlt
  refine ⟨b, off, e, by omega, fun i hi => ?_⟩
  obtain ⟨xs, ⟨A1, c1, rfl, hy, q1, q2, q3, q4⟩, hcell⟩ := hc i hi
  obtain ⟨A2, c2, k1, k2⟩ := hc' i hi
  have k3 : w2.cell? ⟨b, off + i * 6 + 5, none⟩ = some (.slice A1 fs[i].load.length c1) := hcell 5 _ rfl
  rw [k3] at k1
  obtain ⟨rfl, rfl⟩ : A1 = A2 ∧ c1 = c2 := by simpa using k1
  refine ⟨_, ⟨A1, c1, rfl, ⟨hy.1, fun h1 => ?_⟩, q1, q2, q3, q4⟩, fun j u hu => (World.cell?_of_block (w := w2) hrow).trans (hcell j u hu)⟩
  obtain ⟨b3, off3, e3, hlt3, hc3⟩ := hy.2 h1
  have hge3 := k2 _ e3
  exact ⟨b3, off3, e3, by omega, fun j hj => by
    rw [← hc3 j hj]
    exact World.cell?_of_block (w := w2) (h.same hS hge3 hlt3)⟩
/-- .. and a cell of one's own is written -/
theorem Puts.out_set (h : Puts w2 wr S Sx a d) (hw : Below w.heap.size w w2) (hS : ∀ j, S j → j < w.heap.size) {b : Nat} (h1 : w.heap.size ≤ b) (h2 : b < w2.heap.size) (cs : Array Value) : Dk.Goes w (wr.setRow b cs) S a d := by
  obtain ⟨_, _, hk, hs⟩ := h.out hw
  refine ⟨Sx, h.disk.keep (fun k hk => setRow_other _ _ _ _ (fun e => ?_)) (by simp [World.setRow]), hk.grown (Dk.grown_setRow _ _ _) (fun k e hlt => by cases e; omega), fun j hj => ?_⟩
  · subst e
    rcases h.sub _ hk with h3 | h3
    · have := hS _ h3; omega
    · omega
  · have := hw.size
    rcases h.sub j hj with h3 | h3
    · exact Or.inl h3
    · right; omega
theorem FrsNew.below {N N' : Nat} {A : Option Addr} {fs : List Fr} (h : FrsNew w N A fs) (hf : Frs w w.heap.size A fs) (hb : Below w.heap.size w w2) (hN : N' ≤ N) : FrsNew w2 N' A fs := fun h0 => by
  obtain ⟨b, off, e, hge, hc⟩ := h h0
  obtain ⟨b', off', e', hlt, _⟩ := hf h0
  rw [e] at e'
  obtain ⟨rfl, rfl⟩ : b = b' ∧ off = off' := by simpa using e'
  refine ⟨b, off, e, by omega, fun i hi => ?_⟩
  obtain ⟨A1, c1, k1, k2⟩ := hc i hi
  exact ⟨A1, c1, (hb.cell (by simpa using hlt)).trans k1, fun x hx => Nat.le_trans hN (k2 x hx)⟩
end
/-- P5.2: Take, whatever it answers -/
theorem take_says (t n : Int) (k : Nat) (w : World) (hk : 1 ≤ k ∧ k ≤ 24) :
    Calls Tryd.prog 21 #[.agg #[.int .i64 t, .int .i64 n], .int .i64 (k : Int)] w fun e w' => (∃ t' n' v, e = .returned (.tuple #[.agg #[.int .i64 t', .int .i64 n'], v, .int .i64 (Rg.takeE t n (k : Int))]) ∧ (Rg.takeE t n (k : Int) = 0 → t' = t ∧ n' = n + (k : Int))) ∧ Below w.heap.size w w' := by
  have hk2 : (decide (0 ≤ (k : Int)) && decide ((k : Int) ≤ 24)) = true := by simp; omega
  cases hm : Rg.mayB t n with
  | false =>
    have hE : Rg.takeE t n (k : Int) = 2 := by unfold Rg.takeE; rw [hm]; rfl
    refine (Rg.take_nolog t n k w hm).mono ?_
    rintro e w' ⟨rfl, hb⟩
    exact ⟨⟨0, 0, _, by rw [hE], fun h => by rw [hE] at h; cases h⟩, hb⟩
  | true =>
    by_cases hf : (k : Int) ≤ Rg.freeR t n
    · cases hs : Rg.seqB (n + (k : Int)) with
      | false =>
        have hE : Rg.takeE t n (k : Int) = 50 := by unfold Rg.takeE; rw [hm, hk2, hs]; simp
        refine (Rg.take_high t n k w hm hk2 hf hs).mono ?_
        rintro e w' ⟨rfl, hb⟩
        exact ⟨⟨0, 0, _, by rw [hE], fun h => by rw [hE] at h; cases h⟩, hb⟩
      | true =>
        have hE : Rg.takeE t n (k : Int) = 0 := by unfold Rg.takeE; rw [hm, hk2, hs, decide_eq_true hf]; rfl
        refine (Rg.take_ok t n k w hm hk2 hf hs).mono ?_
        rintro e w' ⟨v, rfl, _, hb⟩
        exact ⟨⟨t, _, v, by rw [hE], fun _ => ⟨rfl, rfl⟩⟩, hb⟩
    · have hE : Rg.takeE t n (k : Int) = 50 := by unfold Rg.takeE; rw [hm, hk2, decide_eq_false hf]; rfl
      refine (Rg.take_full t n k w hm hk2 hf).mono ?_
      rintro e w' ⟨rfl, hb⟩
      exact ⟨⟨0, 0, _, by rw [hE], fun h => by rw [hE] at h; cases h⟩, hb⟩
/-- a sector of the ring, as the disk reads it -/
theorem sector_says {w : World} {S : Nat → Prop} {a : Nat} {d : Dk.Dk} (h : Dk.Disk w S a d) (hup : d.down = false) (s : Int) :
    Calls Tryd.prog 60 #[.pointer (some ⟨a, 0, none⟩), .int .i64 (plc s : Nat)] w fun e w' => ∃ g c,
      e = .returned (.tuple #[.slice (some ⟨g, 0, none⟩) 64 c, .int .i64 0]) ∧ By w' w'.heap.size (some ⟨g, 0, none⟩) (rdD d s) ∧ (rdD d s).length = 64 ∧ 64 ≤ c ∧ w.heap.size ≤ g ∧ Below w.heap.size w w' := by
  have hs := (h.newest_sec (plc_lt s)).1
  refine (Dk.read_ok h hup (plc_lt s)).mono ?_
  rintro e w' ⟨v, rfl, ⟨g, c, rfl, hg, _, hy, hc, _⟩, hb⟩
  have hl : (rdD d s).length = 64 := hs
  rw [hs] at hc ⊢
  exact ⟨g, c, rfl, hy, hl, hc, hg, hb⟩
end Go.Proofs.YtkajcgpkldofjaaDoor
end

section
/-
  JournalSays, by contract, over what journal's calls are to answer: no disk; how many sectors a record wants.
-/
namespace Go.Proofs.YtkajcgpkldofjaaDoor
open Go.RowKit Fm
set_option maxRecDepth 100000

theorem refWants4_any (n : Int) (w : World) (hn : I64 n) : Calls Tryd.prog 27 #[.int .i64 n] w fun e w' => e = .returned (.int .i64 (wantsR n)) ∧ Below w.heap.size w w' := by
  by_cases h1 : n < 1
  · have he : wantsR n = 0 := by unfold wantsR; rw [if_neg (by omega)]
    rw [he]
    clear he
    go_enter Tryd.func27, Tryd.ntmps27
    go_wp2
    go_ret
    exact ⟨rfl, Below.refl _ _⟩
  by_cases h2 : 90 < n
  · have he : wantsR n = 0 := by unfold wantsR; rw [if_neg (by omega)]
    rw [he]
    clear he
    go_enter Tryd.func27, Tryd.ntmps27
    go_wp2
    go_ret
    exact ⟨rfl, Below.refl _ _⟩
  have he : wantsR n = (n + 44) / 45 := by unfold wantsR cutN; rw [if_pos (by omega)]; omega
  rw [he]
  have w1 : IntKind.i64.wrap (n + 45) = n + 45 := by rw [IntKind.wrap_i64]; omega
  have w2 : IntKind.i64.wrap (n + 45 - 1) = n + 44 := by rw [IntKind.wrap_i64]; omega
  have w3 : IntKind.i64.wrap ((n + 44).tdiv 45) = (n + 44) / 45 := by rw [Int.tdiv_eq_ediv_of_nonneg (by omega), IntKind.wrap_i64]; omega
  clear he hn
  go_enter Tryd.func27, Tryd.ntmps27
  go_wp2
  go_ret
  exact ⟨rfl, Below.refl _ _⟩
theorem refWants_any (n : Int) (w : World) (hn : I64 n) : Calls Tryd.prog 11 #[.int .i64 n] w fun e w' => e = .returned (.int .i64 (wantsR n)) ∧ Below w.heap.size w w' := by
  have H := Lib.hid (refWants4_any n w hn)
  clear hn
  go_enter Tryd.func11, Tryd.ntmps11
  go_wp2_with fail
  refine H.out.mono ?_
  rintro e w7 ⟨rfl, hb7⟩
  go_wp2_with fail
  go_ret
  exact ⟨rfl, hb7⟩

/-- Append, Scan, Flush where there is no disk; what the law's own goes says of Each where there is none -/
def AppendNilSays : Prop := ∀ (w : World) (t n : Int) (bs : List Nat) (A : Option Addr) (c : Nat), By w w.heap.size A bs → bs.length ≤ c → c ≤ maxLen → I64 t → I64 n →
  Calls Tryd.prog 8 #[.pointer none, .agg #[.int .i64 t, .int .i64 n], .int .i64 1, .slice A bs.length c] w fun e w' =>
    (∃ t' n', e = .returned (.tuple #[.agg #[.int .i64 t', .int .i64 n'], .int .i64 1])) ∧ Below w.heap.size w w'
def ScanNilSays : Prop := ∀ (w : World) (n : Int), I64 n →
  Calls Tryd.prog 9 #[.pointer none, .int .i64 n] w fun e w' =>
    (∃ A l c t' n', e = .returned (.tuple #[.slice A l c, .agg #[.int .i64 t', .int .i64 n'], .int .i64 1])) ∧ Below w.heap.size w w'
def FlushNilSays : Prop := ∀ (w : World), Calls Tryd.prog 12 #[.pointer none] w fun e w' => e = .returned (.int .i64 1) ∧ Below w.heap.size w w'
def GoesNilSays : Prop := ∀ (w : World), Calls Tryd.prog 13 #[.pointer none, .int .i64 1, .slice none 0 0, .int .i64 0] w fun e w' => e = .returned (.bool true) ∧ Below w.heap.size w w'

set_option maxHeartbeats 2000000 in
theorem says_small (hAN : AppendNilSays) (hSN : ScanNilSays) (hFN : FlushNilSays) (hGN : GoesNilSays) (hW : WantsSays) (hWk : WakesSays) (z x y : Int) (A : Option Addr) (c : Nat) (bs : List Nat) (w : World)
    (hA : By w w.heap.size A bs) (hl : bs.length ≤ 1000) (hc : bs.length ≤ c) (hcm : c ≤ maxLen) (hz : I64 z) (hx : I64 x) (hy : I64 y) (hWd : Widths w) :
    Calls Tryd.prog 3 #[.int .i64 z, .agg #[.int .i64 x, .int .i64 y], .slice A bs.length c] w fun e w' => e = .returned (.bool true) ∧ Below w.heap.size w w' := by
  have hq : ¬ (1000 : Int) < (bs.length : Int) := by omega
  have HA := Lib.hid hA
  have HWd := Lib.hid hWd
  obtain ⟨w0, hw0⟩ : ∃ w0, w0 = w.alloc (.cells #[.int .i64 x, .int .i64 y] 23) := ⟨_, rfl⟩
  have hb0 : Below w.heap.size w w0 := by rw [hw0]; exact (Below.refl _ w).alloc (Nat.le_refl _) _
  have hr0 : w0.heap[w.heap.size]? = some (.cells #[.int .i64 x, .int .i64 y] 23 (0, 0)) := by rw [hw0]; exact heap_alloc_new w _
  have HC := Lib.hid (hAN w0 x y bs A c ((hA.below hb0 (Nat.le_refl _)).mono hb0.size) hc hcm hx hy)
  have HS := Lib.hid (fun W => hSN W z hz)
  have HR := Lib.hid (fun W => refWants_any z W hz)
  have HW0 := Lib.hid hw0
  have HB0 := Lib.hid hb0
  have z0 := cell_of_row w0 w.heap.size 0 _ _ _ hr0
  have z1 := cell_of_row w0 w.heap.size 1 _ _ _ hr0
  simp only [List.getElem?_toArray, List.getElem?_cons_zero, List.getElem?_cons_succ] at z0 z1
  rw [hw0] at z0 z1
  clear hA hWd hl hc hcm hz hx hy hw0 hb0 hr0
  go_enter Tryd.func3, Tryd.ntmps3
  go_wp2_with fail
  rw [← HW0.out]
  refine HC.out.mono ?_
  rintro e w1 ⟨⟨t1, n1, rfl⟩, hb1⟩
  have HB1 := Lib.hid (HB0.out.trans (hb1.mono HB0.out.size))
  clear hb1 z0 z1
  go_wp2_with fail
  refine (HS.out _).mono ?_
  rintro e w2 ⟨⟨A2, l2, c2, t2, n2, rfl⟩, hb2⟩
  have HB2 := Lib.hid (((HB1.out.alloc HB1.out.size (.cells #[.int .i64 t1, .int .i64 n1] 23))).trans (hb2.mono (Nat.le_trans HB1.out.size (by simp))))
  clear hb2
  go_wp2_with fail
  refine (hW z _).mono ?_
  rintro e w3 ⟨rfl, hb3⟩
  have HB3 := Lib.hid ((HB2.out.alloc HB2.out.size (.cells #[.int .i64 t2, .int .i64 n2] 23)).trans (hb3.mono (Nat.le_trans HB2.out.size (by simp))))
  clear hb3
  obtain ⟨wz, hwz⟩ : ∃ wz, wz = wantsR z := ⟨_, rfl⟩
  rw [← hwz]
  go_wp2_with fail
  refine (HR.out _).mono ?_
  rintro e w4 ⟨rfl, hb4⟩
  rw [← hwz]
  have HB4 := Lib.hid (HB3.out.trans (hb4.mono HB3.out.size))
  clear hb4 hwz
  have he : (wz == wz) = true := by simp
  have he2 : decide (wz = wz) = true := by simp
  go_wp2_with fail
  refine (hFN _).mono ?_
  rintro e w5 ⟨rfl, hb5⟩
  have HB5 := Lib.hid (HB4.out.trans (hb5.mono HB4.out.size))
  clear hb5
  go_wp2_with fail
  refine (hGN _).mono ?_
  rintro e w6 ⟨rfl, hb6⟩
  have HB6 := Lib.hid (HB5.out.trans (hb6.mono HB5.out.size))
  clear hb6
  go_wp2_with fail
  refine (hWk _ (widths_low HWd.out HB6.out HWd.out.1)).mono ?_
  rintro e w7 ⟨rfl, hb7⟩
  have HB7 := Lib.hid (HB6.out.trans (hb7.mono HB6.out.size))
  clear hb7
  go_wp2_with fail
  go_ret
  exact ⟨rfl, HB7.out⟩
end Go.Proofs.YtkajcgpkldofjaaDoor
end

section
/-
  The journal's small calls, by contract: how many sectors a record wants, Flush, what is answered where there is no disk, whether parts come behind a frame.
-/
namespace Go.Proofs.YtkajcgpkldofjaaDoor
open Go.RowKit Fm
set_option maxRecDepth 100000

theorem wants_says : WantsSays := by
  intro n w
  by_cases h1 : n < 1
  · have he : wantsR n = 0 := by unfold wantsR; rw [if_neg (by omega)]
    rw [he]
    clear he
    go_enter Tryd.func10, Tryd.ntmps10
    go_wp2
    go_ret
    exact ⟨rfl, Below.refl _ _⟩
  by_cases h2 : n > 90
  · have he : wantsR n = 0 := by unfold wantsR; rw [if_neg (by omega)]
    rw [he]
    clear he
    go_enter Tryd.func10, Tryd.ntmps10
    go_wp2
    go_ret
    exact ⟨rfl, Below.refl _ _⟩
  have he : wantsR n = (n - 1) / 45 + 1 := by unfold wantsR cutN; rw [if_pos (by omega)]; omega
  rw [he]
  have w1 : IntKind.i64.wrap (n - 1) = n - 1 := by rw [IntKind.wrap_i64]; omega
  have w2 : IntKind.i64.wrap ((n - 1).tdiv 45) = (n - 1) / 45 := by rw [Int.tdiv_eq_ediv_of_nonneg (by omega), IntKind.wrap_i64]; omega
  have w3 : IntKind.i64.wrap ((n - 1) / 45 + 1) = (n - 1) / 45 + 1 := by rw [IntKind.wrap_i64]; omega
  clear he
  go_enter Tryd.func10, Tryd.ntmps10
  go_wp2
  go_ret
  exact ⟨rfl, Below.refl _ _⟩
theorem flush_says : FlushSays := by
  intro w S a d hd hup
  have H := Lib.hid (Dk.flush_ok hd hup)
  clear hd hup
  go_enter Tryd.func12, Tryd.ntmps12
  go_wp2_with fail
  refine H.out.mono ?_
  rintro e w7 ⟨rfl, hg⟩
  go_wp2_with fail
  go_ret
  exact ⟨rfl, hg⟩
theorem flush_nil : FlushNilSays := by
  intro w
  have H := Lib.hid (Dk.flush_nil w)
  go_enter Tryd.func12, Tryd.ntmps12
  go_wp2_with fail
  refine H.out.mono ?_
  rintro e w7 ⟨rfl, rfl⟩
  go_wp2_with fail
  go_ret
  exact ⟨rfl, Below.refl _ _⟩
/-- whether parts of a frame's record come behind it -/
def moreB (f : Fr) : Bool := decide (f.part + 1 < f.of)
theorem more_any (f : Fr) (A : Option Addr) (c : Nat) (w : World) (hp : f.part ≤ 9223372036854775806) (hp0 : -9223372036854775808 ≤ f.part) :
    Calls Tryd.prog 26 #[.agg (frv A c f).toArray] w fun e w' => e = .returned (.bool (moreB f)) ∧ Below w.heap.size w w' := by
  have hb := (Below.refl w.heap.size w).alloc (Nat.le_refl _) (.cells (frv A c f).toArray 54)
  have hg := heap_alloc_new w (.cells (frv A c f).toArray 54)
  have c2 := cell_of_row _ w.heap.size 2 _ _ _ hg
  have c3 := cell_of_row _ w.heap.size 3 _ _ _ hg
  simp only [frv, List.getElem?_toArray, List.getElem?_cons_zero, List.getElem?_cons_succ] at c2 c3
  have HB := Lib.hid hb
  have w1 : IntKind.i64.wrap (f.part + 1) = f.part + 1 := by rw [IntKind.wrap_i64]; omega
  unfold moreB
  unfold frv at hb hg ⊢
  clear hb hg
  go_enter Tryd.func26, Tryd.ntmps26
  go_wp2
  go_ret
  exact ⟨rfl, HB.out⟩
end Go.Proofs.YtkajcgpkldofjaaDoor
end

section
/-
  Append, by contract, over put: a frame that was cut is written.
-/
namespace Go.Proofs.YtkajcgpkldofjaaDoor
open Go.RowKit Fm
set_option maxRecDepth 100000

theorem Tryd.infoLj : (Tryd.prog.info? 23).map (·.size) = some 2 := by kernel_rfl
theorem Tryd.infoLsj (a b : Int) : (Tryd.prog.info? 23).map (·.size) = some (#[.int .i64 a, .int .i64 b] : Array Value).size := Tryd.infoLj
theorem one2j (a b : Int) : (#[.int .i64 a, .int .i64 b] : Array Value).all (·.oneCell') = true := by simp [Value.oneCell']
theorem size2j (a b c d : Int) : (#[.int .i64 a, .int .i64 b] : Array Value).size = (#[.int .i64 c, .int .i64 d] : Array Value).size := rfl
theorem plc_place {s : Int} (h : 1 ≤ s ∧ s ≤ 1099511627776) (W : World) : Calls Tryd.prog 23 #[.int .i64 s] W fun e w' => e = .returned (.tuple #[.int .i64 (plc s : Nat), .int .i64 0]) ∧ Below W.heap.size W w' := by
  refine (Rg.at_place s W).mono ?_
  rintro e w' ⟨rfl, hb⟩
  refine ⟨?_, hb⟩
  have h1 : Rg.seqB s = true := by unfold Rg.seqB; simp; omega
  unfold Rg.placeR plc
  rw [if_pos h1, show (((2 + s % 24).toNat : Nat) : Int) = 2 + s % 24 by omega]
theorem puts_take (d : Dk.Dk) (F : List Fr) {k : Nat} (hk : k < F.length) : putsD d (F.take (k + 1)) = (putsD d (F.take k)).write (plc F[k].seq) (byB F[k]) := by
  unfold putsD
  rw [List.take_succ_eq_append_getElem hk, List.foldl_append]
  rfl

theorem goes_after {w w8 w' : World} {S : Nat → Prop} {a : Nat} {d' : Dk.Dk} (hb : Below w.heap.size w w8) (hg : Dk.Goes w8 w' S a d') : Dk.Goes w w' S a d' := by
  obtain ⟨S', hd, hk, hs⟩ := hg
  exact ⟨S', hd, (Dk.Kept.of_below hb (Nat.le_refl _)).trans hk (fun _ _ hx => hx), fun j hj => (hs j hj).imp id (fun h => Nat.le_trans hb.size h)⟩
set_option maxHeartbeats 1000000 in
theorem put_says {w : World} {S : Nat → Prop} {a : Nat} {d : Dk.Dk} {f : Fr} {A : Option Addr} {c : Nat} (h : Dk.Disk w S a d) (hup : d.down = false) (hca : (d.cache (plc f.seq)).length ≤ 1000100) (hWd : Widths w)
    (hv : FrV w w.heap.size (frv A c f) f) (hm : mayB f = true) (hs : 1 ≤ f.seq ∧ f.seq ≤ 1099511627776) (h64 : (byB f).length = 64) :
    Calls Tryd.prog 22 #[.pointer (some ⟨a, 0, none⟩), .agg (frv A c f).toArray] w fun e w' => e = .returned (.int .i64 0) ∧ Dk.Goes w w' S a (d.write (plc f.seq) (byB f)) := by
  have hb := (Below.refl w.heap.size w).alloc (Nat.le_refl _) (.cells (frv A c f).toArray 54)
  obtain ⟨w2, hw2⟩ : ∃ w2, w2 = w.alloc (.cells (frv A c f).toArray 54) := ⟨_, rfl⟩
  have hg : w2.heap[w.heap.size]? = some (.cells (frv A c f).toArray 54 (0, 0)) := by rw [hw2]; exact heap_alloc_new w _
  rw [← hw2] at hb
  have hz : w2.heap.size = w.heap.size + 1 := by rw [hw2]; simp
  have HBy := Lib.hid (fun W (hW : Below w2.heap.size w2 W) => bytes_yes f A c W ((hv.below (hb.trans (hW.mono hb.size)) (Nat.le_refl _)).mono (hb.trans (hW.mono hb.size)).size) hm (hWd.below (hb.trans (hW.mono hb.size))))
  have HPl := Lib.hid (fun W => plc_place (W := W) hs)
  have HC := Lib.hid (show ∀ W, Below w2.heap.size w2 W → ∀ j u, (frv A c f)[j]? = some u → W.cell? ⟨w.heap.size, j, none⟩ = some u from fun W hW j u hu => by
    rw [cell_of_row W w.heap.size j _ _ _ ((hW.block _ (by omega)).trans hg)]
    simpa using hu)
  have HLd := Lib.hid (show ∀ x ∈ f.load, x < 256 from hv.fine.load)
  have HD := Lib.hid h
  have HUp := Lib.hid hup
  have HCa := Lib.hid hca
  have H64 := Lib.hid h64
  have HB := Lib.hid hb
  have HW2 := Lib.hid hw2
  have HS := Lib.hid hs
  have c0 := HC.out w2 (Below.refl _ _) 0 _ rfl
  clear h hup hca hWd hv hm hs h64 hb hw2 hg hz
  unfold frv at HW2
  unfold frv
  go_enter Tryd.func22, Tryd.ntmps22
  go_wp2_with (rw [← HW2.out])
  refine (HPl.out _).mono ?_
  rintro e w7 ⟨rfl, hb7⟩
  have HB7 := Lib.hid hb7
  have z0 := HC.out w7 hb7 0 _ rfl
  have z1 := HC.out w7 hb7 1 _ rfl
  have z2 := HC.out w7 hb7 2 _ rfl
  have z3 := HC.out w7 hb7 3 _ rfl
  have z4 := HC.out w7 hb7 4 _ rfl
  have z5 := HC.out w7 hb7 5 _ rfl
  clear hb7 c0
  go_wp2_with fail
  refine (HBy.out w7 HB7.out).mono ?_
  rintro e w8 ⟨v8, rfl, hnew⟩
  obtain ⟨A8, c8, rfl, hy8, hl8, hm8, hn8, _⟩ := hnew.slice (Crc.sealed_lt (secB_lt HLd.out))
  have hb8 := HB.out.trans ((HB7.out.trans (hnew.2.mono HB7.out.size)).mono HB.out.size)
  have hwrt := Dk.write_ok (c := c8) (HD.out.below hb8 (Nat.le_refl _)) HUp.out (plc_lt f.seq) hy8 (by have := H64.out; unfold byB at this; omega) (by have h1 := HCa.out; omega)
  have HWt := Lib.hid hwrt
  have HB8 := Lib.hid hb8
  clear hnew hy8 hl8 hm8 hn8 hb8 hwrt z0 z1 z2 z3 z4 z5
  go_wp2_with fail
  refine HWt.out.mono ?_
  rintro e w9 ⟨rfl, hg9⟩
  have HG := Lib.hid (goes_after HB8.out hg9)
  clear hg9
  go_wp2_with fail
  go_ret
  exact ⟨rfl, HG.out⟩

set_option maxHeartbeats 4000000 in
theorem append_says : AppendSays := by
  intro w S a d t n inc bs A c hd hup hcache hWd hns hby hlc hcm ht hn hi
  obtain ⟨E1, hE1⟩ : ∃ E1, E1 = appE t n inc bs.length := ⟨_, rfl⟩
  rw [← hE1]
  obtain ⟨N1, hN1⟩ : ∃ N1, N1 = if E1 = 0 then n + (cutN bs.length : Nat) else n := ⟨_, rfl⟩
  obtain ⟨D1, hD1⟩ : ∃ D1, D1 = if E1 = 0 then putsD d (cutAll bs n inc) else d := ⟨_, rfl⟩
  rw [← hN1, ← hD1]
  have HNo := Lib.hid (show ∀ E : Int, appE t n inc bs.length = E → E ≠ 0 → E1 = E ∧ N1 = n ∧ D1 = d from fun E h h0 => by
    rw [h] at hE1
    exact ⟨hE1, by rw [hN1, if_neg (by rw [hE1]; exact h0)], by rw [hD1, if_neg (by rw [hE1]; exact h0)]⟩)
  have HYes := Lib.hid (show appE t n inc bs.length = 0 → E1 = 0 ∧ N1 = n + (cutN bs.length : Nat) ∧ D1 = putsD d (cutAll bs n inc) from fun h => by
    rw [h] at hE1
    exact ⟨hE1, by rw [hN1, if_pos hE1], by rw [hD1, if_pos hE1]⟩)
  obtain ⟨w2, hw2⟩ : ∃ w2, w2 = (w.alloc (.cells #[.int .i64 t, .int .i64 n] 23)).alloc (.cells #[.int .i64 0, .int .i64 0] 23) := ⟨_, rfl⟩
  have HB0 := Lib.hid (show Below w.heap.size w w2 by rw [hw2]; exact ((Below.refl w.heap.size w).alloc (Nat.le_refl _) _).alloc (by simp) _)
  have HZ := Lib.hid (show w2.heap.size = w.heap.size + 2 by rw [hw2]; simp)
  have HZ1 := Lib.hid (show w.heap.size ≤ w2.heap.size by rw [HZ.out]; omega)
  have HG := Lib.hid (show ∀ W, Below w2.heap.size w2 W → W.heap[w.heap.size]? = some (.cells #[.int .i64 t, .int .i64 n] 23 (0, 0)) ∧ W.heap[w.heap.size + 1]? = some (.cells #[.int .i64 0, .int .i64 0] 23 (0, 0)) from fun W hb => by
    have hz := HZ.out
    refine ⟨(hb.block _ (by omega)).trans ?_, (hb.block _ (by omega)).trans ?_⟩
    · rw [hw2]; exact (Below.heap_alloc _ _ _ (by simp)).trans (heap_alloc_new w _)
    · rw [hw2]
      have h := heap_alloc_new (w.alloc (.cells #[.int .i64 t, .int .i64 n] 23)) (.cells #[.int .i64 0, .int .i64 0] 23)
      rwa [World.size_alloc] at h)
  have HW2 := Lib.hid hw2
  have HD := Lib.hid hd
  have HUp := Lib.hid hup
  have HCa := Lib.hid hcache
  have HWd := Lib.hid hWd
  have HNs := Lib.hid hns
  have HBy := Lib.hid hby
  have HIn := Lib.hid (show (I64 t ∧ I64 n) ∧ I64 inc from ⟨⟨ht, hn⟩, hi⟩)
  clear hd hup hcache hWd hns hby ht hn hi hw2 hE1 hN1 hD1
  go_enter Tryd.func8, Tryd.ntmps8
  go_wp2_with fail
  rw [← HW2.out]
  refine (Rg.may_any _ _ _).mono ?_
  rintro e w3 ⟨rfl, hb3⟩
  have HB3 := Lib.hid (show Below w2.heap.size w2 w3 from hb3)
  clear hb3
  cases hm : Rg.mayB t n with
  | false =>
    have HAE := Lib.hid (show appE t n inc bs.length = 2 by unfold appE; rw [hm]; rfl)
    clear hm
    obtain ⟨g0, g1⟩ := HG.out _ HB3.out
    have c0 := cell_of_row w3 w.heap.size 0 _ _ _ g0
    have c1 := cell_of_row w3 w.heap.size 1 _ _ _ g0
    simp only [List.getElem?_toArray, List.getElem?_cons_zero, List.getElem?_cons_succ] at c0 c1
    go_wp2_with (refine wpList_store_row rfl 23 (.tmp 8) (.tmp 23) rfl (w.heap.size + 1) #[.int .i64 t, .int .i64 n] (by simp [Act.eval, Act.put]) (by simp [Act.eval, Act.put]) 23 #[.int .i64 0, .int .i64 0] g1 (Tryd.infoLsj _ _) (size2j _ _ _ _) (one2j _ _) ?_)
    exact bodyPost_ret (results_cell_tmp (t := 23) (p := 8) (u := 9) rfl _ _ (w.heap.size + 1) #[.int .i64 t, .int .i64 n] (0, 0) _ rfl (setRow_heap _ _ _ _ _ _ g1) Tryd.underlying23 rfl Tryd.infoLj) rfl (by
      obtain ⟨q1, q2, q3⟩ := HNo.out _ HAE.out (by omega)
      rw [q1, q2, q3]
      exact ⟨rfl, Dk.Goes.same HD.out (below_setRow (HB0.out.trans (HB3.out.mono HZ1.out)) (by omega) _)⟩)
  | true =>
    obtain ⟨g0, g1⟩ := HG.out _ HB3.out
    have c0 := cell_of_row w3 w.heap.size 0 _ _ _ g0
    have c1 := cell_of_row w3 w.heap.size 1 _ _ _ g0
    simp only [List.getElem?_toArray, List.getElem?_cons_zero, List.getElem?_cons_succ] at c0 c1
    have hc3 := HB0.out.trans (HB3.out.mono HZ1.out)
    have HCut := Lib.hid (cut_fresh bs n inc A c w3 ((HBy.out.by_.below hc3 (Nat.le_refl _)).mono hc3.size) hlc hcm HIn.out.1.2.1 HIn.out.1.2.2)
    have HMay := Lib.hid hm
    clear hm hc3
    go_wp2_with fail
    refine HCut.out.mono ?_
    rintro e w4 ⟨A4, c4, rfl, hfr, hlc4, hc2, hn4, hb4, hnw⟩
    obtain ⟨E, hE⟩ : ∃ E, E = cutE bs.length n inc := ⟨_, rfl⟩
    rw [← hE]
    have HB4 := Lib.hid (HB3.out.trans (hb4.mono HB3.out.size))
    clear c0 c1 g0 g1
    obtain ⟨g0, g1⟩ := HG.out _ HB4.out
    have c0 := cell_of_row w4 w.heap.size 0 _ _ _ g0
    have c1 := cell_of_row w4 w.heap.size 1 _ _ _ g0
    simp only [List.getElem?_toArray, List.getElem?_cons_zero, List.getElem?_cons_succ] at c0 c1
    by_cases hE0 : ¬ E = 0
    · have HAE := Lib.hid (show appE t n inc bs.length = E by unfold appE; rw [HMay.out, if_pos rfl, ← hE, if_neg hE0])
      have HNe := Lib.hid hE0
      clear hfr hlc4 hc2 hn4 hb4 hnw hE
      go_wp2_with (refine wpList_store_row rfl 23 (.tmp 8) (.tmp 34) rfl (w.heap.size + 1) #[.int .i64 t, .int .i64 n] (by simp [Act.eval, Act.put]) (by simp [Act.eval, Act.put]) 23 #[.int .i64 0, .int .i64 0] g1 (Tryd.infoLsj _ _) (size2j _ _ _ _) (one2j _ _) ?_)
      exact bodyPost_ret (results_cell_tmp (t := 23) (p := 8) (u := 9) rfl _ _ (w.heap.size + 1) #[.int .i64 t, .int .i64 n] (0, 0) _ rfl (setRow_heap _ _ _ _ _ _ g1) Tryd.underlying23 rfl Tryd.infoLj) rfl (by
        obtain ⟨q1, q2, q3⟩ := HNo.out _ HAE.out (by omega)
        rw [q1, q2, q3]
        exact ⟨rfl, Dk.Goes.same HD.out (below_setRow (HB0.out.trans (HB4.out.mono HZ1.out)) (by omega) _)⟩)
    · replace hE0 : E = 0 := Decidable.not_not.1 hE0
      have hcE : cutE bs.length n inc = 0 := by rw [← hE]; exact hE0
      have hL : cutL bs n inc = cutAll bs n inc := by unfold cutL; rw [if_pos hcE]
      rw [hL] at hfr hlc4 hnw ⊢
      obtain ⟨y1, y2, y3, y4, y5, y6, y7, y8⟩ := cutE_yes hcE
      obtain ⟨m, hm⟩ : ∃ m, m = cutN bs.length := ⟨_, rfl⟩
      have hFl : (cutAll bs n inc).length = m := by rw [cutAll_length, hm]
      rw [hFl] at hlc4 ⊢
      rw [← hm] at y4 y7 y8
      have HT := Lib.hid (take_says t n m w4 (by omega))
      have HFr := Lib.hid hfr
      have HFn := Lib.hid hnw
      have HFl := Lib.hid hFl
      have HM := Lib.hid hm
      have HcE := Lib.hid hcE
      have HB34 := Lib.hid hb4
      subst hE0
      clear hfr hnw hFl hm hcE hL hE hlc4 hc2 hn4 hb4 hlc
      go_wp2_with fail
      refine HT.out.mono ?_
      rintro e w5 ⟨⟨t5, n5, v5, rfl, h5⟩, hb5⟩
      obtain ⟨T, hT⟩ : ∃ T, T = Rg.takeE t n (m : Int) := ⟨_, rfl⟩
      rw [← hT] at h5 ⊢
      have HT5 := Lib.hid hT
      have H5 := Lib.hid h5
      have HB45 := Lib.hid (hb5.trans ((Below.refl w5.heap.size w5).alloc (Nat.le_refl _) (.cells #[.int .i64 t5, .int .i64 n5] 23) |>.mono hb5.size))
      have HZ5 := Lib.hid (Nat.le_trans HB4.out.size hb5.size)
      have HB6 := Lib.hid (HB4.out.trans (HB45.out.mono HB4.out.size))
      clear c0 c1 g0 g1 h5 hT hb5
      by_cases hT0 : ¬ T = 0
      · have HAE := Lib.hid (show appE t n inc bs.length = T by unfold appE; rw [HMay.out, if_pos rfl, if_pos HcE.out, ← HM.out, ← HT5.out])
        obtain ⟨g0, g1⟩ := HG.out _ HB6.out
        have c0 := cell_of_row (w5.alloc (.cells #[.int .i64 t5, .int .i64 n5] 23)) w.heap.size 0 _ _ _ g0
        have c1 := cell_of_row (w5.alloc (.cells #[.int .i64 t5, .int .i64 n5] 23)) w.heap.size 1 _ _ _ g0
        simp only [List.getElem?_toArray, List.getElem?_cons_zero, List.getElem?_cons_succ] at c0 c1
        go_wp2_with (refine wpList_store_row rfl 23 (.tmp 8) (.tmp 46) rfl (w.heap.size + 1) #[.int .i64 t, .int .i64 n] (by simp [Act.eval, Act.put]) (by simp [Act.eval, Act.put]) 23 #[.int .i64 0, .int .i64 0] g1 (Tryd.infoLsj _ _) (size2j _ _ _ _) (one2j _ _) ?_)
        exact bodyPost_ret (results_cell_tmp (t := 23) (p := 8) (u := 9) rfl _ _ (w.heap.size + 1) #[.int .i64 t, .int .i64 n] (0, 0) _ rfl (setRow_heap _ _ _ _ _ _ g1) Tryd.underlying23 rfl Tryd.infoLj) rfl (by
          obtain ⟨q1, q2, q3⟩ := HNo.out _ HAE.out (by omega)
          rw [q1, q2, q3]
          exact ⟨rfl, Dk.Goes.same HD.out (below_setRow (HB0.out.trans (HB6.out.mono HZ1.out)) (by omega) _)⟩)
      · replace hT0 : T = 0 := Decidable.not_not.1 hT0
        obtain ⟨rfl, rfl⟩ := H5.out hT0
        have HAE := Lib.hid (show appE t5 n inc bs.length = 0 by unfold appE; rw [HMay.out, if_pos rfl, if_pos HcE.out, ← HM.out, ← HT5.out, hT0])
        clear H5 HT5
        subst hT0
        obtain ⟨w6, hw6⟩ : ∃ w6, w6 = w5.alloc (.cells #[.int .i64 t5, .int .i64 (n + (m : Int))] 23) := ⟨_, rfl⟩
        have hr6 : w6.heap[w5.heap.size]? = some (.cells #[.int .i64 t5, .int .i64 (n + (m : Int))] 23 (0, 0)) := by rw [hw6]; exact heap_alloc_new w5 _
        have hz6 : w6.heap.size = w5.heap.size + 1 := by rw [hw6]; simp
        have hb46 := HB45.out
        have hb26 := HB6.out
        rw [← hw6] at hb46 hb26
        have hb06 := HB0.out.trans (hb26.mono HZ1.out)
        have HR6 := Lib.hid hr6
        have HZ6 := Lib.hid hz6
        have HB26 := Lib.hid hb26
        have HB06 := Lib.hid hb06
        have HF6 := Lib.hid ((HFr.out.below hb46 (Nat.le_refl _)).mono hb46.size)
        have HN6 := Lib.hid (FrsNew.below HFn.out HFr.out hb46 (Nat.le_trans HZ1.out HB3.out.size))
        have HP6 := Lib.hid (Puts.start (HD.out.below hb06 (Nat.le_refl _)))
        have HW6 := Lib.hid hw6
        have HOld := Lib.hid (fun j hj => HD.out.old j hj)
        clear hr6 hz6 hb46 hb26 hb06 hw6 HB45 HB6 HFr HFn HT HD
        go_wp2_with fail
        rw [← HW6.out]
        obtain ⟨F, hF⟩ : ∃ F, F = cutAll bs n inc := ⟨_, rfl⟩
        have HF := Lib.hid hF
        rw [← hF] at HF6 HN6 HFl HYes
        clear hF
        go_loopw [50] (fun i wr => ∃ k : Nat, k ≤ m ∧ i = .int .i64 (k : Int) ∧ ∃ Sx, Puts w6 wr S Sx a (putsD d (F.take k))) (fun i _ => m - (intOf i).toNat)
        case atStart => exact ⟨0, Nat.zero_le _, rfl, S, HP6.out⟩
        case round =>
          obtain ⟨k, hk, rfl, Sx, hpt⟩ := hrel
          have HPt := Lib.hid hpt
          by_cases hlt : k < m
          · have hkF : k < F.length := by rw [HFl.out]; exact hlt
            obtain ⟨b, off, A', c', rfl, hblt, hy, hlc', hcm', hn', hfine, a0, a1, a2, a3, a4, a5⟩ := (hpt.frs HOld.out HF6.out HN6.out).cells hkF
            have hgk : F[k] = cutOne bs n inc k := by
              have h1 := HF.out
              subst h1
              exact cutAll_get hkF
            have hseq : F[k].seq = n + (k : Int) := by rw [hgk]; rfl
            have hmy : Fm.mayB F[k] = true := by
              have h1 := may_cut HcE.out
              rw [← HF.out, List.all_eq_true] at h1
              exact h1 _ (List.getElem_mem hkF)
            have h64 : (byB F[k]).length = 64 := by rw [hgk]; exact byB_len HcE.out (by rw [← HM.out]; exact hlt)
            have hpn := puts_take d F hkF
            have hca : ∀ j, ((putsD d (F.take k)).cache j).length ≤ (d.cache j).length + 24 := fun j => by
              have h1 := puts_cache (F.take k) d j
              rw [List.length_take] at h1
              omega
            have hdn : (putsD d (F.take k)).down = false := by rw [puts_down]; exact HUp.out
            have hld : ∀ x ∈ F[k].load, x < 256 := hy.1
            have hfv : FrV wr wr.heap.size (frv A' c' F[k]) F[k] := ⟨A', c', rfl, hy, hlc', hcm', hn', hfine⟩
            have hwd : Widths wr := by
              obtain ⟨q0, q1, q2, q3, q4, q5⟩ := HWd.out
              have hz := hpt.kept.size
              have hz2 := HB06.out.size
              have hkk : wr.heap[0]? = w.heap[0]? := (hpt.kept.block _ (by omega) HNs.out).trans (HB06.out.block _ q0)
              exact ⟨by omega, (World.cell?_of_block (w := w) hkk).trans q1, (World.cell?_of_block (w := w) hkk).trans q2, (World.cell?_of_block (w := w) hkk).trans q3, (World.cell?_of_block (w := w) hkk).trans q4, (World.cell?_of_block (w := w) hkk).trans q5⟩
            generalize F[k] = f at *
            have HPt2 := Lib.hid (show ∀ W, Below wr.heap.size wr W → Calls Tryd.prog 22 #[.pointer (some ⟨a, 0, none⟩), .agg (frv A' c' f).toArray] W fun e w' => e = .returned (.int .i64 0) ∧ Dk.Goes W w' Sx a ((putsD d (F.take k)).write (plc f.seq) (byB f)) from fun W hW =>
              put_says (HPt.out.below hW).disk hdn (by have h1 := hca (plc f.seq); have h2 := HCa.out (plc f.seq) (plc_lt _); omega) (hwd.below hW) ((hfv.below hW (Nat.le_refl _)).mono hW.size) hmy (by omega) h64)
            obtain ⟨wf, hwf⟩ : ∃ wf, wf = wr.alloc (.cells (frv A' c' f).toArray 54) := ⟨_, rfl⟩
            have hbf : Below wr.heap.size wr wf := by rw [hwf]; exact (Below.refl _ wr).alloc (Nat.le_refl _) _
            have hgf : wf.heap[wr.heap.size]? = some (.cells (frv A' c' f).toArray 54 (0, 0)) := by rw [hwf]; exact heap_alloc_new wr _
            have HBf := Lib.hid hbf
            have HWf := Lib.hid hwf
            have HGf := Lib.hid hgf
            have HPf := Lib.hid (HPt.out.below hbf)
            have HPn := Lib.hid hpn
            clear hy hlc' hcm' hn' hfine hgk hseq hmy h64 hpn hca hdn hld hfv hwd hpt hbf hwf hgf
            have hkm : (k : Int) < (m : Int) := by omega
            unfold frv at HWf HGf HPt2
            go_wp2_with fail
            rw [← HWf.out]
            refine (HPt2.out wf HBf.out).mono ?_
            rintro e w9 ⟨rfl, hg9⟩
            obtain ⟨S9, hp9⟩ := HPf.out.goes hg9
            have HP9 := Lib.hid hp9
            clear hg9 hp9 a0 a1 a2 a3 a4 a5
            go_wp2_with fail
            go_roundw
            case rel => exact ⟨k + 1, by omega, by simp, S9, by rw [HPn.out]; exact HP9.out⟩
            case measure => simp [intOf]; omega
          · obtain rfl : k = m := by omega
            have hkn : ¬ (k : Int) < (k : Int) := by omega
            have hs : ∀ b, w.heap.size ≤ b → b < w6.heap.size → wr.heap[b]? = w6.heap[b]? := fun b h1 h2 => hpt.same HOld.out h1 h2
            have hz2 := HZ.out
            have hz5 := HZ5.out
            have hz6 := HZ6.out
            have r6 := (hs w5.heap.size (by omega) (by omega)).trans HR6.out
            have g1 := (hs (w.heap.size + 1) (by omega) (by omega)).trans (HG.out _ HB26.out).2
            have d0 := cell_of_row wr w5.heap.size 0 _ _ _ r6
            have d1 := cell_of_row wr w5.heap.size 1 _ _ _ r6
            simp only [List.getElem?_toArray, List.getElem?_cons_zero, List.getElem?_cons_succ] at d0 d1
            have HGo := Lib.hid (hpt.out_set HB06.out HOld.out (b := w.heap.size + 1) (by omega) (by omega) #[.int .i64 t5, .int .i64 (n + (k : Int))])
            clear hs hz2 hz5 hz6 r6 hpt
            go_wp2_with (refine wpList_store_row rfl 23 (.tmp 8) (.tmp 62) rfl (w.heap.size + 1) #[.int .i64 t5, .int .i64 (n + (k : Int))] (by simp [Act.eval, Act.put]) (by simp [Act.eval, Act.put]) 23 #[.int .i64 0, .int .i64 0] g1 (Tryd.infoLsj _ _) (size2j _ _ _ _) (one2j _ _) ?_)
            exact bodyPost_ret (results_cell_tmp (t := 23) (p := 8) (u := 9) rfl _ _ (w.heap.size + 1) #[.int .i64 t5, .int .i64 (n + (k : Int))] (0, 0) _ rfl (setRow_heap _ _ _ _ _ _ g1) Tryd.underlying23 rfl Tryd.infoLj) rfl (by
              obtain ⟨q1, q2, q3⟩ := HYes.out HAE.out
              have h1 := HGo.out
              rw [List.take_of_length_le (Nat.le_of_eq HFl.out)] at h1
              rw [q1, q2, q3, ← HM.out]
              exact ⟨rfl, h1⟩)
end Go.Proofs.YtkajcgpkldofjaaDoor
end

section
/-
  A scan's read, by contract: the frame of a sequence, if it stands in its sector.
-/
namespace Go.Proofs.YtkajcgpkldofjaaDoor
open Go.RowKit Fm
set_option maxRecDepth 100000

/-- does the frame of the sequence s stand in its sector? -/
def readB (d : Dk.Dk) (s : Int) : Bool := isSeq s && (readOK (rdD d s) && decide ((readF (rdD d s)).seq = s))
/-- a scan's cells: the disk, the tail, the last good frame, the disk's error -/
def scanRow (a : Nat) (tail : Int) (A : Option Addr) (c : Nat) (f : Fr) (e : Int) : Array Value :=
  #[.pointer (some ⟨a, 0, none⟩), .int .i64 tail, .int .i64 f.seq, .int .i64 f.inc, .int .i64 f.part, .int .i64 f.of, .int .u32 (f.mark : Nat), .slice A f.load.length c, .int .i64 e]
def ReadSays (w : World) (d : Dk.Dk) (s : Int) (e : Ending) (w' : World) : Prop :=
  ∃ A c f, e = .returned (.tuple #[.agg (frv A c f).toArray, .bool (readB d s)]) ∧ FrV w' w'.heap.size (frv A c f) f ∧ Below w.heap.size w w' ∧ (∀ b, A = some b → w.heap.size ≤ b.block) ∧ (readB d s = true → f = readF (rdD d s))
theorem frv_size (A : Option Addr) (c : Nat) (f : Fr) : (frv A c f).length = 6 := rfl
theorem frv_one (A : Option Addr) (c : Nat) (f : Fr) : ∀ u ∈ frv A c f, u.oneCell' = true := by
  intro u hu
  unfold frv at hu
  simp only [List.mem_cons, List.not_mem_nil, or_false] at hu
  rcases hu with rfl | rfl | rfl | rfl | rfl | rfl <;> rfl

theorem Tryd.info6 (a b c d m : Int) (A : Option Addr) (l k : Nat) : (Tryd.prog.info? 54).map (·.size) = some (#[.int .i64 a, .int .i64 b, .int .i64 c, .int .i64 d, .int .u32 m, .slice A l k] : Array Value).size := Tryd.sizeF
theorem one6 (a b c d m : Int) (A : Option Addr) (l k : Nat) : (#[.int .i64 a, .int .i64 b, .int .i64 c, .int .i64 d, .int .u32 m, .slice A l k] : Array Value).all (·.oneCell') = true := by simp [Value.oneCell']
theorem size6 (a b c d m a' b' c' d' m' : Int) (A A' : Option Addr) (l k l' k' : Nat) : (#[.int .i64 a, .int .i64 b, .int .i64 c, .int .i64 d, .int .u32 m, .slice A l k] : Array Value).size = (#[.int .i64 a', .int .i64 b', .int .i64 c', .int .i64 d', .int .u32 m', .slice A' l' k'] : Array Value).size := rfl

set_option maxHeartbeats 2000000 in
theorem jread_says {w : World} {S : Nat → Prop} {a Bs : Nat} {d : Dk.Dk} {tail : Int} {A0 : Option Addr} {c0 : Nat} {L : Fr} (h : Dk.Disk w S a d) (hup : d.down = false) (hWd : Widths w)
    (hs : w.heap[Bs]? = some (.cells (scanRow a tail A0 c0 L 0) 59 (0, 0))) (s : Int) :
    Calls Tryd.prog 47 #[.pointer (some ⟨Bs, 0, none⟩), .int .i64 s] w (ReadSays w d s) := by
  obtain ⟨w1, hw1⟩ : ∃ w1, w1 = w.alloc (.cells #[.int .i64 0, .int .i64 0, .int .i64 0, .int .i64 0, .int .u32 0, .slice none 0 0] 54) := ⟨_, rfl⟩
  have HB1 := Lib.hid (show Below w.heap.size w w1 by rw [hw1]; exact (Below.refl _ w).alloc (Nat.le_refl _) _)
  have HZ1 := Lib.hid (show w1.heap.size = w.heap.size + 1 by rw [hw1]; simp)
  have HG1 := Lib.hid (show ∀ W, Below w1.heap.size w1 W → W.heap[w.heap.size]? = some (.cells #[.int .i64 0, .int .i64 0, .int .i64 0, .int .i64 0, .int .u32 0, .slice none 0 0] 54 (0, 0)) from fun W hW => by
    have hz : w1.heap.size = w.heap.size + 1 := by rw [hw1]; simp
    rw [hW.block _ (by omega), hw1]; exact heap_alloc_new w _)
  have hlt : Bs < w.heap.size := (Array.getElem?_eq_some_iff.1 hs).1
  have HC := Lib.hid (show ∀ W, Below w.heap.size w W → W.cell? ⟨Bs, 0, none⟩ = some (.pointer (some ⟨a, 0, none⟩)) from fun W hW => by
    rw [cell_of_row W Bs 0 _ _ _ ((hW.block _ hlt).trans hs)]; rfl)
  have HD := Lib.hid (show ∀ W, Below w.heap.size w W → Dk.Disk W S a d from fun W hW => h.below hW (Nat.le_refl _))
  have HWd := Lib.hid (show ∀ W, Below w.heap.size w W → Widths W from fun W hW => hWd.below hW)
  have HUp := Lib.hid hup
  have HW1 := Lib.hid hw1
  clear h hup hWd hs hw1
  cases hq : isSeq s with
  | false =>
    have HR := Lib.hid (show readB d s = false by unfold readB; rw [hq]; rfl)
    have HP := Lib.hid (fun W => show Calls Tryd.prog 23 #[.int .i64 s] W fun e w' => e = .returned (.tuple #[.int .i64 0, .int .i64 2]) ∧ Below W.heap.size W w' from (Rg.at_place s W).mono (by
      rintro e w' ⟨rfl, hb⟩
      refine ⟨?_, hb⟩
      unfold Rg.placeR
      rw [show Rg.seqB s = false from hq]; rfl))
    clear hq
    go_enter Tryd.func47, Tryd.ntmps47
    go_wp2_with (rw [← HW1.out])
    refine (HP.out _).mono ?_
    rintro e w3 ⟨rfl, hb3⟩
    have g3 := HG1.out w3 hb3
    have HB3 := Lib.hid hb3
    clear hb3
    go_wp2_with (refine wpList_store_row rfl 54 (.tmp 4) (.tmp 17) rfl w.heap.size #[.int .i64 0, .int .i64 0, .int .i64 0, .int .i64 0, .int .u32 0, .slice none 0 0] (by simp [Act.eval, Act.put]) (by simp [Act.eval, Act.put]) 54 #[.int .i64 0, .int .i64 0, .int .i64 0, .int .i64 0, .int .u32 0, .slice none 0 0] g3 (Tryd.info6 _ _ _ _ _ _ _ _) (size6 _ _ _ _ _ _ _ _ _ _ _ _ _ _ _ _) (one6 _ _ _ _ _ _ _ _) ?_)
    exact bodyPost_ret (results_cell_tmp (t := 54) (p := 4) (u := 5) rfl _ _ w.heap.size #[.int .i64 0, .int .i64 0, .int .i64 0, .int .i64 0, .int .u32 0, .slice none 0 0] (0, 0) _ rfl (setRow_heap _ _ _ _ _ _ g3) Tryd.underlying54 rfl (Tryd.info6 _ _ _ _ _ _ _ _)) rfl (by
      refine ⟨none, 0, zF, by rw [HR.out]; rfl, zF_at _ _, below_setRow (HB1.out.trans (HB3.out.mono HB1.out.size)) (Nat.le_refl _) _, (fun _ e => by cases e), (fun e => by rw [HR.out] at e; cases e)⟩)
  | true =>
    have HP := Lib.hid (fun W => show Calls Tryd.prog 23 #[.int .i64 s] W fun e w' => e = .returned (.tuple #[.int .i64 (plc s : Nat), .int .i64 0]) ∧ Below W.heap.size W w' from plc_place (by unfold isSeq at hq; simpa using hq) W)
    have HQ := Lib.hid hq
    clear hq
    go_enter Tryd.func47, Tryd.ntmps47
    go_wp2_with (rw [← HW1.out])
    refine (HP.out _).mono ?_
    rintro e w3 ⟨rfl, hb3⟩
    have HB3 := Lib.hid (HB1.out.trans (hb3.mono HB1.out.size))
    have HB13 := Lib.hid hb3
    have e0 := HC.out w3 HB3.out
    clear hb3
    go_wp2_with fail
    refine (sector_says (HD.out w3 HB3.out) HUp.out s).mono ?_
    rintro e w4 ⟨g, c4, rfl, hy4, hl4, hc4, hg4, hb4⟩
    have HB14 := Lib.hid (HB13.out.trans (hb4.mono HB13.out.size))
    have HB4 := Lib.hid (HB3.out.trans (hb4.mono HB3.out.size))
    have HRd := Lib.hid (read_new (rdD d s) _ c4 w4 (by omega) hy4 (HWd.out w4 HB4.out))
    have HL4 := Lib.hid hl4
    rw [hl4] at HRd
    clear hy4 hl4 hc4 hg4 hb4 e0
    go_wp2_with fail
    refine HRd.out.mono ?_
    rintro e w5 ⟨A5, c5, rfl, hv5, hb5, hn5⟩
    obtain ⟨f, hf⟩ : ∃ f, f = readF (rdD d s) := ⟨_, rfl⟩
    rw [← hf] at hv5 ⊢
    obtain ⟨E, hE⟩ : ∃ E, E = readE (rdD d s) := ⟨_, rfl⟩
    rw [← hE]
    have HF := Lib.hid hf
    have HE := Lib.hid hE
    clear hf hE
    unfold frv
    obtain ⟨w6, hw6⟩ : ∃ w6, w6 = w5.alloc (.cells #[.int .i64 f.seq, .int .i64 f.inc, .int .i64 f.part, .int .i64 f.of, .int .u32 (f.mark : Nat), .slice A5 f.load.length c5] 54) := ⟨_, rfl⟩
    have HW6 := Lib.hid hw6
    have hr6 : w6.heap[w5.heap.size]? = some (.cells #[.int .i64 f.seq, .int .i64 f.inc, .int .i64 f.part, .int .i64 f.of, .int .u32 (f.mark : Nat), .slice A5 f.load.length c5] 54 (0, 0)) := by rw [hw6]; exact heap_alloc_new w5 _
    have hb6 : Below w5.heap.size w5 w6 := by rw [hw6]; exact (Below.refl _ w5).alloc (Nat.le_refl _) _
    have hz6 : w6.heap.size = w5.heap.size + 1 := by rw [hw6]; simp
    have HR6 := Lib.hid hr6
    have HB16 := Lib.hid (HB14.out.trans ((hb5.trans (hb6.mono hb5.size)).mono HB14.out.size))
    have HLt := Lib.hid (show w.heap.size < w5.heap.size by have := HZ1.out; have := HB14.out.size; have := hb5.size; omega)
    have HF6 := Lib.hid (hv5.below hb6 (Nat.le_refl _))
    have HN5 := Lib.hid (show ∀ b, A5 = some b → w.heap.size ≤ b.block from fun b e => Nat.le_trans HB4.out.size (hn5 b e))
    have HS6 := Lib.hid (show w6.heap[w5.heap.size]? = some (.cells #[.int .i64 f.seq, .int .i64 f.inc, .int .i64 f.part, .int .i64 f.of, .int .u32 (f.mark : Nat), .slice A5 f.load.length c5] 54 (0, 0)) ∧ w6.cell? ⟨w5.heap.size, 0, none⟩ = some (.int .i64 f.seq) from ⟨hr6, by rw [cell_of_row w6 w5.heap.size 0 _ _ _ hr6]; rfl⟩)
    clear hr6 hb6 hz6 hw6 hv5 hb5 hn5
    go_wp2_with (rw [← HW6.out])
    have HQ2 := Lib.hid (show readB d s = (readOK (rdD d s) && decide (f.seq = s)) by unfold readB; rw [HQ.out, Bool.true_and, ← HF.out])
    have g6 := HG1.out w6 HB16.out
    cases hok : readOK (rdD d s) with
    | false =>
      obtain rfl : E = 40 := by rw [HE.out]; unfold readE; rw [hok]; rfl
      have HQ3 := Lib.hid (show readB d s = false by rw [HQ2.out, hok]; rfl)
      clear hok
      refine wp_region_held_drew (S := fun W => W.heap[w5.heap.size]? = some (.cells #[.int .i64 f.seq, .int .i64 f.inc, .int .i64 f.part, .int .i64 f.of, .int .u32 (f.mark : Nat), .slice A5 f.load.length c5] 54 (0, 0)) ∧ W.cell? ⟨w5.heap.size, 0, none⟩ = some (.int .i64 f.seq)) (by kernel_rfl) HS6.out (fun hHeld => ?_)
      refine wpAnyH_take (i := 0) (v := ?_) rfl (by kernel_rfl) (by kernel_rfl) (by kernel_rfl) (fun _ _ _ h => h) (Or.inl ⟨by rfl, ?_⟩) (by assumption) ?_
      rotate_left
      · simp only [List.getElem_toArray, List.getElem_cons_zero, List.getElem_cons_succ]; intro W hSw; (try dsimp only at hSw); refine exec_load_part 54 (.tmp 9) ?_ w5.heap.size 0 ?_ [.int .i64 f.seq, .int .i64 f.inc, .int .i64 f.part, .int .i64 f.of, .int .u32 (f.mark : Nat), .slice A5 f.load.length c5] _ (Dk.row_cells (cs := [.int .i64 f.seq, .int .i64 f.inc, .int .i64 f.part, .int .i64 f.of, .int .u32 (f.mark : Nat), .slice A5 f.load.length c5]) hSw.1 (fun j u hu => by rw [Nat.zero_add]; exact hu)) Tryd.underlying54 ?_ (Tryd.info6 _ _ _ _ _ _ _ _) <;> rfl
      simp only [Act.put, List.getElem_toArray, List.getElem_cons_zero, List.getElem_cons_succ, List.setIfInBounds_toArray, List.set_cons_zero, List.set_cons_succ]
      refine wpAnyH_take (i := 1) (v := ?_) rfl (by kernel_rfl) (by kernel_rfl) (by kernel_rfl) (fun _ _ _ h => h) (Or.inl ⟨by rfl, ?_⟩) (by assumption) ?_
      rotate_left
      · simp only [List.getElem_toArray, List.getElem_cons_zero, List.getElem_cons_succ]; intro W hSw; (try dsimp only at hSw); go_simp; all_goals with_reducible rfl
      simp only [Act.put, List.getElem_toArray, List.getElem_cons_zero, List.getElem_cons_succ, List.setIfInBounds_toArray, List.set_cons_zero, List.set_cons_succ]
      refine wpAnyH_take (i := 2) (v := ?_) rfl (by kernel_rfl) (by kernel_rfl) (by kernel_rfl) (fun _ _ _ h => h) (Or.inl ⟨by rfl, ?_⟩) (by assumption) ?_
      rotate_left
      · simp only [List.getElem_toArray, List.getElem_cons_zero, List.getElem_cons_succ]; intro W hSw; (try dsimp only at hSw); go_simp; all_goals with_reducible rfl
      simp only [Act.put, List.getElem_toArray, List.getElem_cons_zero, List.getElem_cons_succ, List.setIfInBounds_toArray, List.set_cons_zero, List.set_cons_succ]
      refine wpAnyH_take (i := 3) (v := ?_) rfl (by kernel_rfl) (by kernel_rfl) (by kernel_rfl) (fun _ _ _ h => h) (Or.inl ⟨by rfl, ?_⟩) (by assumption) ?_
      rotate_left
      · simp only [List.getElem_toArray, List.getElem_cons_zero, List.getElem_cons_succ]; intro W hSw; (try dsimp only at hSw); go_simp; all_goals with_reducible rfl
      simp only [Act.put, List.getElem_toArray, List.getElem_cons_zero, List.getElem_cons_succ, List.setIfInBounds_toArray, List.set_cons_zero, List.set_cons_succ]
      refine wpAnyH_take (i := 4) (v := undef) rfl (by kernel_rfl) (by kernel_rfl) (by kernel_rfl) (fun _ _ _ h => h) (Or.inr ⟨by rfl, rfl⟩) (by assumption) ?_
      (try simp only [Act.put, List.getElem_toArray, List.getElem_cons_zero, List.getElem_cons_succ, List.setIfInBounds_toArray, List.set_cons_zero, List.set_cons_succ])
      refine wpAnyH_take (i := 5) (v := undef) rfl (by kernel_rfl) (by kernel_rfl) (by kernel_rfl) (fun _ _ _ h => h) (Or.inr ⟨by rfl, rfl⟩) (by assumption) ?_
      (try simp only [Act.put, List.getElem_toArray, List.getElem_cons_zero, List.getElem_cons_succ, List.setIfInBounds_toArray, List.set_cons_zero, List.set_cons_succ])
      refine wpAnyH_take (i := 6) (v := undef) rfl (by kernel_rfl) (by kernel_rfl) (by kernel_rfl) (fun _ _ _ h => h) (Or.inr ⟨by rfl, rfl⟩) (by assumption) ?_
      (try simp only [Act.put, List.getElem_toArray, List.getElem_cons_zero, List.getElem_cons_succ, List.setIfInBounds_toArray, List.set_cons_zero, List.set_cons_succ])
      refine wpAnyH_take (i := 7) (v := undef) rfl (by kernel_rfl) (by kernel_rfl) (by kernel_rfl) (fun _ _ _ h => h) (Or.inr ⟨by rfl, rfl⟩) (by assumption) ?_
      (try simp only [Act.put, List.getElem_toArray, List.getElem_cons_zero, List.getElem_cons_succ, List.setIfInBounds_toArray, List.set_cons_zero, List.set_cons_succ])
      refine wpAnyH_take (i := 8) (v := ?_) rfl (by kernel_rfl) (by kernel_rfl) (by kernel_rfl) (fun _ _ _ h => h) (Or.inl ⟨by rfl, ?_⟩) (by assumption) ?_
      rotate_left
      · simp only [List.getElem_toArray, List.getElem_cons_zero, List.getElem_cons_succ]; intro W hSw; (try dsimp only at hSw); go_simp; all_goals with_reducible rfl
      simp only [Act.put, List.getElem_toArray, List.getElem_cons_zero, List.getElem_cons_succ, List.setIfInBounds_toArray, List.set_cons_zero, List.set_cons_succ]
      refine wpAnyH_ready (rs := [9]) (by kernel_rfl) (by simp) ?_
      refine AllReadyH.cons rfl (fun K hK => ?_) AllReadyH.nil
      simp only [List.getElem_toArray, List.getElem_cons_zero, List.getElem_cons_succ]
      rw [if_pos]
      rotate_left
      · simp [Region.wanted]
      refine wp_store_row 54 (.tmp 4) (.tmp 39) rfl w.heap.size #[.int .i64 f.seq, .int .i64 f.inc, .int .i64 f.part, .int .i64 f.of, .int .u32 (f.mark : Nat), .slice A5 f.load.length c5] (by simp [Act.eval, Act.put]) (by simp [Act.eval, Act.put]) 54 #[.int .i64 0, .int .i64 0, .int .i64 0, .int .i64 0, .int .u32 0, .slice none 0 0] g6 (Tryd.info6 _ _ _ _ _ _ _ _) (size6 _ _ _ _ _ _ _ _ _ _ _ _ _ _ _ _) (one6 _ _ _ _ _ _ _ _) ?_
      obtain ⟨w9, hw9⟩ : ∃ x, x = w6.drew.setRow w.heap.size #[.int .i64 f.seq, .int .i64 f.inc, .int .i64 f.part, .int .i64 f.of, .int .u32 (f.mark : Nat), .slice A5 f.load.length c5] := ⟨_, rfl⟩
      have hgr : w6.drew.grownBy w9 (some w.heap.size) := by rw [hw9]; exact Dk.grown_setRow w6.drew w.heap.size _
      have hr9 : w9.heap[w.heap.size]? = some (.cells #[.int .i64 f.seq, .int .i64 f.inc, .int .i64 f.part, .int .i64 f.of, .int .u32 (f.mark : Nat), .slice A5 f.load.length c5] 54 (0, 0)) := by rw [hw9]; exact setRow_heap _ _ _ _ _ _ g6
      have hs9 : w9.heap[w5.heap.size]? = some (.cells #[.int .i64 f.seq, .int .i64 f.inc, .int .i64 f.part, .int .i64 f.of, .int .u32 (f.mark : Nat), .slice A5 f.load.length c5] 54 (0, 0)) ∧ w9.cell? ⟨w5.heap.size, 0, none⟩ = some (.int .i64 f.seq) := by
        have h1 : w9.heap[w5.heap.size]? = w6.heap[w5.heap.size]? := by rw [hw9]; exact setRow_other _ _ _ _ (by have := HLt.out; omega)
        exact ⟨h1.trans HR6.out, (World.cell?_of_block (w := w6) h1).trans HS6.out.2⟩
      have hb9 : Below w.heap.size w w9 := by rw [hw9]; exact below_setRow (HB1.out.trans (HB16.out.mono HB1.out.size)).drew (Nat.le_refl _) _
      have hv9 : FrV w9 w9.heap.size (frv A5 c5 f) f := ⟨A5, c5, rfl, ((show FrV w6.drew w5.heap.size (frv A5 c5 f) f from HF6.out).load_by.off_row (show w5.heap.size ≤ w6.heap.size by have := HR6.out; exact Nat.le_of_lt (Array.getElem?_eq_some_iff.1 this).1) g6 (by intro u hu n e; subst e; simp at hu) hgr).mono (Nat.le_trans (Nat.le_of_lt (Array.getElem?_eq_some_iff.1 HR6.out).1) hgr.size), HF6.out.load_le.1, HF6.out.load_le.2.1, HF6.out.load_le.2.2, HF6.out.fine⟩
      have HR9 := Lib.hid hr9
      have HB9 := Lib.hid hb9
      have HV9 := Lib.hid hv9
      rw [← hw9]
      clear hw9 hgr hr9 hb9 hv9
      refine hK.out _ _ (hs9) (fun hHeldN => ?_)
      clear hK K hHeld
      have hHeld := hHeldN
      clear hHeldN
      (try simp only [Act.put, List.getElem_toArray, List.getElem_cons_zero, List.getElem_cons_succ, List.setIfInBounds_toArray, List.set_cons_zero, List.set_cons_succ])
      refine wpAnyH_take (i := 10) (v := ?_) rfl (by kernel_rfl) (by kernel_rfl) (by kernel_rfl) (fun _ _ _ h => h) (Or.inl ⟨by rfl, ?_⟩) (by assumption) ?_
      rotate_left
      · simp only [List.getElem_toArray, List.getElem_cons_zero, List.getElem_cons_succ]; intro W hSw; (try dsimp only at hSw); go_simp; all_goals with_reducible rfl
      simp only [Act.put, List.getElem_toArray, List.getElem_cons_zero, List.getElem_cons_succ, List.setIfInBounds_toArray, List.set_cons_zero, List.set_cons_succ]
      refine wpAnyH_done (by kernel_rfl) ?_ _
      go_wp2_with fail
      exact bodyPost_ret (results_cell_tmp (t := 54) (p := 4) (u := 5) rfl _ _ w.heap.size #[.int .i64 f.seq, .int .i64 f.inc, .int .i64 f.part, .int .i64 f.of, .int .u32 (f.mark : Nat), .slice A5 f.load.length c5] (0, 0) _ rfl HR9.out Tryd.underlying54 rfl (Tryd.info6 _ _ _ _ _ _ _ _)) rfl (by
        refine ⟨A5, c5, f, by rw [HQ3.out]; rfl, HV9.out, HB9.out, HN5.out, fun _ => HF.out⟩)
    | true =>
      obtain rfl : E = 0 := by rw [HE.out]; unfold readE; rw [hok]; rfl
      have HQ3 := Lib.hid (show readB d s = decide (f.seq = s) by rw [HQ2.out, hok, Bool.true_and])
      have HOk := Lib.hid hok
      clear hok
      refine wp_region_held_drew (S := fun W => W.heap[w5.heap.size]? = some (.cells #[.int .i64 f.seq, .int .i64 f.inc, .int .i64 f.part, .int .i64 f.of, .int .u32 (f.mark : Nat), .slice A5 f.load.length c5] 54 (0, 0)) ∧ W.cell? ⟨w5.heap.size, 0, none⟩ = some (.int .i64 f.seq)) (by kernel_rfl) HS6.out (fun hHeld => ?_)
      refine wpAnyH_take (i := 0) (v := ?_) rfl (by kernel_rfl) (by kernel_rfl) (by kernel_rfl) (fun _ _ _ h => h) (Or.inl ⟨by rfl, ?_⟩) (by assumption) ?_
      rotate_left
      · simp only [List.getElem_toArray, List.getElem_cons_zero, List.getElem_cons_succ]; intro W hSw; (try dsimp only at hSw); refine exec_load_part 54 (.tmp 9) ?_ w5.heap.size 0 ?_ [.int .i64 f.seq, .int .i64 f.inc, .int .i64 f.part, .int .i64 f.of, .int .u32 (f.mark : Nat), .slice A5 f.load.length c5] _ (Dk.row_cells (cs := [.int .i64 f.seq, .int .i64 f.inc, .int .i64 f.part, .int .i64 f.of, .int .u32 (f.mark : Nat), .slice A5 f.load.length c5]) hSw.1 (fun j u hu => by rw [Nat.zero_add]; exact hu)) Tryd.underlying54 ?_ (Tryd.info6 _ _ _ _ _ _ _ _) <;> rfl
      simp only [Act.put, List.getElem_toArray, List.getElem_cons_zero, List.getElem_cons_succ, List.setIfInBounds_toArray, List.set_cons_zero, List.set_cons_succ]
      refine wpAnyH_take (i := 1) (v := ?_) rfl (by kernel_rfl) (by kernel_rfl) (by kernel_rfl) (fun _ _ _ h => h) (Or.inl ⟨by rfl, ?_⟩) (by assumption) ?_
      rotate_left
      · simp only [List.getElem_toArray, List.getElem_cons_zero, List.getElem_cons_succ]; intro W hSw; (try dsimp only at hSw); go_simp; all_goals with_reducible rfl
      simp only [Act.put, List.getElem_toArray, List.getElem_cons_zero, List.getElem_cons_succ, List.setIfInBounds_toArray, List.set_cons_zero, List.set_cons_succ]
      refine wpAnyH_take (i := 2) (v := ?_) rfl (by kernel_rfl) (by kernel_rfl) (by kernel_rfl) (fun _ _ _ h => h) (Or.inl ⟨by rfl, ?_⟩) (by assumption) ?_
      rotate_left
      · simp only [List.getElem_toArray, List.getElem_cons_zero, List.getElem_cons_succ]; intro W hSw; (try dsimp only at hSw); go_simp; all_goals with_reducible rfl
      simp only [Act.put, List.getElem_toArray, List.getElem_cons_zero, List.getElem_cons_succ, List.setIfInBounds_toArray, List.set_cons_zero, List.set_cons_succ]
      refine wpAnyH_take (i := 3) (v := ?_) rfl (by kernel_rfl) (by kernel_rfl) (by kernel_rfl) (fun _ _ _ h => h) (Or.inl ⟨by rfl, ?_⟩) (by assumption) ?_
      rotate_left
      · simp only [List.getElem_toArray, List.getElem_cons_zero, List.getElem_cons_succ]; intro W hSw; (try dsimp only at hSw); go_simp; all_goals with_reducible rfl
      simp only [Act.put, List.getElem_toArray, List.getElem_cons_zero, List.getElem_cons_succ, List.setIfInBounds_toArray, List.set_cons_zero, List.set_cons_succ]
      refine wpAnyH_take (i := 4) (v := ?_) rfl (by kernel_rfl) (by kernel_rfl) (by kernel_rfl) (fun _ _ _ h => h) (Or.inl ⟨by rfl, ?_⟩) (by assumption) ?_
      rotate_left
      · simp only [List.getElem_toArray, List.getElem_cons_zero, List.getElem_cons_succ]; intro W hSw; (try dsimp only at hSw); go_simp; all_goals with_reducible rfl
      simp only [Act.put, List.getElem_toArray, List.getElem_cons_zero, List.getElem_cons_succ, List.setIfInBounds_toArray, List.set_cons_zero, List.set_cons_succ]
      refine wpAnyH_take (i := 5) (v := ?_) rfl (by kernel_rfl) (by kernel_rfl) (by kernel_rfl) (fun _ _ _ h => h) (Or.inl ⟨by rfl, ?_⟩) (by assumption) ?_
      rotate_left
      · simp only [List.getElem_toArray, List.getElem_cons_zero, List.getElem_cons_succ]; intro W hSw; (try dsimp only at hSw); go_simp; all_goals with_reducible rfl
      simp only [Act.put, List.getElem_toArray, List.getElem_cons_zero, List.getElem_cons_succ, List.setIfInBounds_toArray, List.set_cons_zero, List.set_cons_succ]
      refine wpAnyH_take (i := 6) (v := ?_) rfl (by kernel_rfl) (by kernel_rfl) (by kernel_rfl) (fun _ _ _ h => h) (Or.inl ⟨by rfl, ?_⟩) (by assumption) ?_
      rotate_left
      · simp only [List.getElem_toArray, List.getElem_cons_zero, List.getElem_cons_succ]; intro W hSw; (try dsimp only at hSw); go_simp; all_goals with_reducible rfl
      simp only [Act.put, List.getElem_toArray, List.getElem_cons_zero, List.getElem_cons_succ, List.setIfInBounds_toArray, List.set_cons_zero, List.set_cons_succ]
      refine wpAnyH_take (i := 7) (v := ?_) rfl (by kernel_rfl) (by kernel_rfl) (by kernel_rfl) (fun _ _ _ h => h) (Or.inl ⟨by rfl, ?_⟩) (by assumption) ?_
      rotate_left
      · simp only [List.getElem_toArray, List.getElem_cons_zero, List.getElem_cons_succ]; intro W hSw; (try dsimp only at hSw); go_simp; all_goals with_reducible rfl
      simp only [Act.put, List.getElem_toArray, List.getElem_cons_zero, List.getElem_cons_succ, List.setIfInBounds_toArray, List.set_cons_zero, List.set_cons_succ]
      refine wpAnyH_take (i := 8) (v := ?_) rfl (by kernel_rfl) (by kernel_rfl) (by kernel_rfl) (fun _ _ _ h => h) (Or.inl ⟨by rfl, ?_⟩) (by assumption) ?_
      rotate_left
      · simp only [List.getElem_toArray, List.getElem_cons_zero, List.getElem_cons_succ]; intro W hSw; (try dsimp only at hSw); go_simp; all_goals with_reducible rfl
      simp only [Act.put, List.getElem_toArray, List.getElem_cons_zero, List.getElem_cons_succ, List.setIfInBounds_toArray, List.set_cons_zero, List.set_cons_succ]
      refine wpAnyH_ready (rs := [9]) (by kernel_rfl) (by simp) ?_
      refine AllReadyH.cons rfl (fun K hK => ?_) AllReadyH.nil
      simp only [List.getElem_toArray, List.getElem_cons_zero, List.getElem_cons_succ]
      rw [if_pos]
      rotate_left
      · simp [Region.wanted]
      refine wp_store_row 54 (.tmp 4) (.tmp 39) rfl w.heap.size #[.int .i64 f.seq, .int .i64 f.inc, .int .i64 f.part, .int .i64 f.of, .int .u32 (f.mark : Nat), .slice A5 f.load.length c5] (by simp [Act.eval, Act.put]) (by simp [Act.eval, Act.put]) 54 #[.int .i64 0, .int .i64 0, .int .i64 0, .int .i64 0, .int .u32 0, .slice none 0 0] g6 (Tryd.info6 _ _ _ _ _ _ _ _) (size6 _ _ _ _ _ _ _ _ _ _ _ _ _ _ _ _) (one6 _ _ _ _ _ _ _ _) ?_
      obtain ⟨w9, hw9⟩ : ∃ x, x = w6.drew.setRow w.heap.size #[.int .i64 f.seq, .int .i64 f.inc, .int .i64 f.part, .int .i64 f.of, .int .u32 (f.mark : Nat), .slice A5 f.load.length c5] := ⟨_, rfl⟩
      have hgr : w6.drew.grownBy w9 (some w.heap.size) := by rw [hw9]; exact Dk.grown_setRow w6.drew w.heap.size _
      have hr9 : w9.heap[w.heap.size]? = some (.cells #[.int .i64 f.seq, .int .i64 f.inc, .int .i64 f.part, .int .i64 f.of, .int .u32 (f.mark : Nat), .slice A5 f.load.length c5] 54 (0, 0)) := by rw [hw9]; exact setRow_heap _ _ _ _ _ _ g6
      have hs9 : w9.heap[w5.heap.size]? = some (.cells #[.int .i64 f.seq, .int .i64 f.inc, .int .i64 f.part, .int .i64 f.of, .int .u32 (f.mark : Nat), .slice A5 f.load.length c5] 54 (0, 0)) ∧ w9.cell? ⟨w5.heap.size, 0, none⟩ = some (.int .i64 f.seq) := by
        have h1 : w9.heap[w5.heap.size]? = w6.heap[w5.heap.size]? := by rw [hw9]; exact setRow_other _ _ _ _ (by have := HLt.out; omega)
        exact ⟨h1.trans HR6.out, (World.cell?_of_block (w := w6) h1).trans HS6.out.2⟩
      have hb9 : Below w.heap.size w w9 := by rw [hw9]; exact below_setRow (HB1.out.trans (HB16.out.mono HB1.out.size)).drew (Nat.le_refl _) _
      have hv9 : FrV w9 w9.heap.size (frv A5 c5 f) f := ⟨A5, c5, rfl, ((show FrV w6.drew w5.heap.size (frv A5 c5 f) f from HF6.out).load_by.off_row (show w5.heap.size ≤ w6.heap.size by have := HR6.out; exact Nat.le_of_lt (Array.getElem?_eq_some_iff.1 this).1) g6 (by intro u hu n e; subst e; simp at hu) hgr).mono (Nat.le_trans (Nat.le_of_lt (Array.getElem?_eq_some_iff.1 HR6.out).1) hgr.size), HF6.out.load_le.1, HF6.out.load_le.2.1, HF6.out.load_le.2.2, HF6.out.fine⟩
      have HR9 := Lib.hid hr9
      have HB9 := Lib.hid hb9
      have HV9 := Lib.hid hv9
      rw [← hw9]
      clear hw9 hgr hr9 hb9 hv9
      refine hK.out _ _ (hs9) (fun hHeldN => ?_)
      clear hK K hHeld
      have hHeld := hHeldN
      clear hHeldN
      (try simp only [Act.put, List.getElem_toArray, List.getElem_cons_zero, List.getElem_cons_succ, List.setIfInBounds_toArray, List.set_cons_zero, List.set_cons_succ])
      refine wpAnyH_take (i := 10) (v := ?_) rfl (by kernel_rfl) (by kernel_rfl) (by kernel_rfl) (fun _ _ _ h => h) (Or.inl ⟨by rfl, ?_⟩) (by assumption) ?_
      rotate_left
      · simp only [List.getElem_toArray, List.getElem_cons_zero, List.getElem_cons_succ]; intro W hSw; (try dsimp only at hSw); go_simp; all_goals with_reducible rfl
      simp only [Act.put, List.getElem_toArray, List.getElem_cons_zero, List.getElem_cons_succ, List.setIfInBounds_toArray, List.set_cons_zero, List.set_cons_succ]
      refine wpAnyH_done (by kernel_rfl) ?_ _
      go_wp2_with fail
      exact bodyPost_ret (results_cell_tmp (t := 54) (p := 4) (u := 5) rfl _ _ w.heap.size #[.int .i64 f.seq, .int .i64 f.inc, .int .i64 f.part, .int .i64 f.of, .int .u32 (f.mark : Nat), .slice A5 f.load.length c5] (0, 0) _ rfl HR9.out Tryd.underlying54 rfl (Tryd.info6 _ _ _ _ _ _ _ _)) rfl (by
        refine ⟨A5, c5, f, by rw [HQ3.out]; rfl, HV9.out, HB9.out, HN5.out, fun _ => HF.out⟩)
end Go.Proofs.YtkajcgpkldofjaaDoor
end
